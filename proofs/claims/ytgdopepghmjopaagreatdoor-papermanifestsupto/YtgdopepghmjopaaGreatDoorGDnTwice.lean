import Derived.Test.YtgdopepghmjopaaGreatDoorGPwNamed
import Derived.Lib.SmallJoins
namespace Go.Proofs.YtgdopepghmjopaaGreatDoor
open Go.RowKit
/-- the row half made -/
def tK (m k : Nat) : List Value := (List.range 32).map fun i => if i < k then Value.int .i64 (stps m (2 ^ i) : Int) else Value.int .i64 0
theorem tK_zero (m : Nat) : tK m 0 = List.replicate 32 (Value.int .i64 0) := by
  unfold tK
  simp
  rfl
theorem tK_len (m k : Nat) : (tK m k).length = 32 := by simp [tK]
theorem tK_get (m k j : Nat) (hj : j < 32) : (tK m k)[j]? = some (if j < k then Value.int .i64 (stps m (2 ^ j) : Int) else Value.int .i64 0) := by
  unfold tK
  rw [List.getElem?_map, List.getElem?_range hj]
  rfl
theorem tK_full (m : Nat) : tK m 32 = stepsV m := by
  apply List.ext_getElem?
  intro j
  by_cases hj : j < 32
  · rw [tK_get _ _ _ hj, stepsV_get _ _ hj, if_pos hj]
  · rw [List.getElem?_eq_none (by rw [tK_len]; omega), List.getElem?_eq_none (by rw [stepsV_len]; omega)]
theorem tK_set (m k : Nat) (hk : k < 32) : (tK m k).set k (.int .i64 (stps m (2 ^ k) : Int)) = tK m (k + 1) := by
  apply List.ext_getElem?
  intro j
  by_cases hj : j < 32
  · rw [List.getElem?_set]
    by_cases e : k = j
    · subst e
      rw [if_pos rfl, if_pos (by rw [tK_len]; exact hk), tK_get m (k + 1) k hk, if_pos (by omega)]
    · rw [if_neg e, tK_get m k j hj, tK_get m (k + 1) j hj]
      by_cases h : j < k
      · rw [if_pos h, if_pos (by omega)]
      · rw [if_neg h, if_neg (by omega)]
  · rw [List.getElem?_eq_none (by simp [tK_len]; omega), List.getElem?_eq_none (by rw [tK_len]; omega)]
theorem stepsV_one (m : Nat) : (stepsV m).toArray.all (·.oneCell') = true := all_oneCell_toArray (fun v hv => by
  unfold stepsV at hv
  obtain ⟨j, _, rfl⟩ := List.mem_map.1 hv
  rfl)
theorem range_steps {w : World} {b m : Nat} {t : TypeId} {fr : Nat × Nat} (h : w.heap[b]? = some (.cells (stepsV m).toArray t fr)) : w.rangeAt b 0 (stepsV m) := by
  have hr := World.rangeAt_of_block h 0 32
  have hL : ((stepsV m).toArray.extract 0 (0 + 32)).toList = stepsV m := by
    rw [show (0 + 32 : Nat) = (stepsV m).toArray.size by simp [stepsV_len]]
    simp
  rwa [hL] at hr
theorem there_row {w : World} {b n : Nat} {cs : Array Value} {t : TypeId} (h : w.heap[b]? = some (.cells cs t (0, 0))) (hn : n ≤ cs.size) : w.there b 0 n := fun j hj => by
  refine ⟨?_, by simp [World.frozen?, h]⟩
  rw [cell_of_row w _ (0 + j) _ _ _ h, Array.getElem?_eq_getElem (by omega)]
  rfl
theorem heap3_0 (w : World) (o o' o'' : Obj) : (((w.alloc o).alloc o').alloc o'').heap[w.heap.size]? = some o := by
  show (((w.heap.push o).push o').push o'')[w.heap.size]? = some o
  rw [Array.getElem?_push, if_neg (by simp; omega), Array.getElem?_push, if_neg (by simp), Array.getElem?_push, if_pos rfl]
theorem heap3_1 (w : World) (o o' o'' : Obj) : (((w.alloc o).alloc o').alloc o'').heap[w.heap.size + 1]? = some o' := by
  show (((w.heap.push o).push o').push o'')[w.heap.size + 1]? = some o'
  rw [Array.getElem?_push, if_neg (by simp), Array.getElem?_push, if_pos (by simp)]
theorem heap3_2 (w : World) (o o' o'' : Obj) : (((w.alloc o).alloc o').alloc o'').heap[w.heap.size + 1 + 1]? = some o'' := by
  show (((w.heap.push o).push o').push o'')[w.heap.size + 1 + 1]? = some o''
  rw [Array.getElem?_push, if_pos (by simp)]
theorem below_setCells {B : Nat} {w w' : World} (h : Below B w w') {b : Nat} (hb : B ≤ b) : ∀ (vs : List Value) {o : Nat}, Below B w (w'.setCells b o vs) := by
  intro vs
  induction vs generalizing w' with
  | nil => intro o; exact h
  | cons v vs ih => intro o; exact ih (h.setCell hb v)
theorem heap_lt {w : World} {b : Nat} {o : Obj} (h : w.heap[b]? = some o) : b < w.heap.size := by
  rcases Nat.lt_or_ge b w.heap.size with h' | h'
  · exact h'
  · rw [Array.getElem?_eq_none h'] at h; simp at h
set_option maxHeartbeats 1000000 in
set_option maxRecDepth 100000 in
set_option linter.unusedSimpArgs false in
/-- twice -/
theorem twice_any (m : Nat) (w : World) (hT : TabP w) :
    Calls Tryz.prog 82 #[.agg (stepsV m).toArray] w fun e w' => e = .returned (.agg (stepsV (2 * m)).toArray) ∧ Below w.heap.size w w' := by
  have hg : 0 < w.heap.size := World.block_lt_of_cell? w _ (hT 0 (by omega))
  have HT := hide hT
  clear hT
  go_enter Tryz.func82, Tryz.ntmps82
  go_wp2_with fail
  go_loopw [4] (fun i wr => ∃ k : Nat, k ≤ 32 ∧ i = .int .i64 k ∧ wr.heap[w.heap.size]? = some (.cells (stepsV m).toArray 104 (0, 0)) ∧ wr.heap[w.heap.size + 1 + 1]? = some (.cells (tK (2 * m) k).toArray 104 (0, 0)) ∧ (∃ cs : Array Value, cs.size = 32 ∧ wr.heap[w.heap.size + 1]? = some (.cells cs 104 (0, 0))) ∧ Below w.heap.size w wr)
    (fun i _ => 32 - (intOf i).toNat)
  case atStart =>
    refine ⟨0, by omega, rfl, heap3_0 _ _ _ _, ?_, ⟨(List.replicate 32 (Value.int .i64 0)).toArray, rfl, heap3_1 _ _ _ _⟩, (((Below.refl _ w).alloc (Nat.le_refl _) _).alloc (by simp) _).alloc (by simp; omega) _⟩
    rw [tK_zero]
    exact heap3_2 w _ _ _
  case round =>
    obtain ⟨k, hk, rfl, hs, ht, ⟨cs, hcs, hres⟩, hnx⟩ := hrel
    by_cases hlt : k < 32
    · have l2 : stps m (2 ^ k) < 4294967296 := stps_lt m (Nat.lt_of_le_of_lt (Nat.pow_le_pow_right (by omega) (show k ≤ 31 by omega)) (by omega))
      have hE : stps m (stps m (2 ^ k)) = stps (2 * m) (2 ^ k) := by rw [← stps_add, Nat.two_mul]
      have hset := tK_set (2 * m) k hlt
      rw [← hE] at hset
      have HSET := hide hset
      clear hset hE
      have hcell : wr.cell? ⟨w.heap.size + 1 + 1, k, none⟩ = some (.int .i64 0) := by
        rw [cell_of_row wr _ k _ _ _ ht]
        have := tK_get (2 * m) k k hlt
        rw [if_neg (by omega)] at this
        simpa using this
      have hfr : wr.frozen? ⟨w.heap.size + 1 + 1, k, none⟩ = false := by simp [World.frozen?, ht]
      have CO : Hid (∀ w', Below w.heap.size w w' → Calls Tryz.prog 81 #[.agg (stepsV m).toArray, .int .i64 (stps m (2 ^ k) : Int)] w' fun e w'' => e = .returned (.int .i64 (stps m (stps m (2 ^ k)) : Int)) ∧ Below w'.heap.size w' w'') := fun w' hb => of_any m _ l2 w' (HT.out.below hb hg)
      have hrg := range_steps hs
      have hck : wr.cell? ⟨w.heap.size, k, none⟩ = some (.int .i64 (stps m (2 ^ k) : Int)) := by
        rw [cell_of_row wr _ k _ _ _ hs, List.getElem?_toArray, stepsV_get m k hlt]
      have i0 : (0 : Int) ≤ (k : Int) := by omega
      have i1 : (k : Int) < 32 := by omega
      have hl1 := heap_lt hs
      have hl2 := heap_lt hres
      have hl3 := heap_lt ht
      generalize stps m (stps m (2 ^ k)) = V at *
      generalize stps m (2 ^ k) = A at *
      have hlen := stepsV_len m
      have HS0 := hide hs
      clear hs
      generalize hSV : stepsV m = SV at *
      go_wp2_with fail
      refine wp_region_held_drew (S := fun w' => w'.rangeAt w.heap.size 0 SV ∧ w'.cell? ⟨w.heap.size, k, none⟩ = some (.int .i64 (A : Int))) (by kernel_rfl) ⟨hrg, hck⟩ (fun hHeld => ?_)
      refine wpAnyH_take (i := 0) (v := (.int .i64 (k : Int))) rfl (by kernel_rfl) (by kernel_rfl) (by kernel_rfl) (fun _ _ _ h => h) (Or.inl ⟨by rfl, ?_⟩) (by assumption) ?_
      · intro w' hSw
        (try dsimp only at hSw)
        go_simp <;> first | exact i64_in (by omega) (by omega) | exact u32_in (by omega) (by omega) | exact u32_add _ _ | (rw [Int.tmod_eq_emod_of_nonneg (by omega)]; omega) | (rw [Int.tdiv_eq_ediv_of_nonneg (by omega)]; omega) | omega
      (try simp only [Act.put, List.setIfInBounds_toArray, List.set_cons_zero, List.set_cons_succ])
      refine wpAnyH_take (i := 1) (v := .agg SV.toArray) rfl (by kernel_rfl) (by kernel_rfl) (by kernel_rfl) (fun _ _ _ h => h) (yieldsIf_load_mid (by rfl) 104 _ rfl w.heap.size 0 rfl SV _ (fun w h => h.1) Tryz.underlying104 rfl (by rw [hlen]; kernel_rfl)) (by assumption) ?_
      (try simp only [Act.put, List.setIfInBounds_toArray, List.set_cons_zero, List.set_cons_succ])
      refine wpAnyH_take (i := 2) (v := (.int .i64 (k : Int))) rfl (by kernel_rfl) (by kernel_rfl) (by kernel_rfl) (fun _ _ _ h => h) (Or.inl ⟨by rfl, ?_⟩) (by assumption) ?_
      · intro w' hSw
        (try dsimp only at hSw)
        go_simp <;> first | exact i64_in (by omega) (by omega) | exact u32_in (by omega) (by omega) | exact u32_add _ _ | (rw [Int.tmod_eq_emod_of_nonneg (by omega)]; omega) | (rw [Int.tdiv_eq_ediv_of_nonneg (by omega)]; omega) | omega
      (try simp only [Act.put, List.setIfInBounds_toArray, List.set_cons_zero, List.set_cons_succ])
      refine wpAnyH_take (i := 3) (v := (.pointer (some ⟨w.heap.size, 0, none⟩))) rfl (by kernel_rfl) (by kernel_rfl) (by kernel_rfl) (fun _ _ _ h => h) (Or.inl ⟨by rfl, ?_⟩) (by assumption) ?_
      · intro w' hSw
        (try dsimp only at hSw)
        go_simp <;> first | exact i64_in (by omega) (by omega) | exact u32_in (by omega) (by omega) | exact u32_add _ _ | (rw [Int.tmod_eq_emod_of_nonneg (by omega)]; omega) | (rw [Int.tdiv_eq_ediv_of_nonneg (by omega)]; omega) | omega
      (try simp only [Act.put, List.setIfInBounds_toArray, List.set_cons_zero, List.set_cons_succ])
      refine wpAnyH_take (i := 4) (v := (.pointer (some ⟨w.heap.size, k, none⟩))) rfl (by kernel_rfl) (by kernel_rfl) (by kernel_rfl) (fun _ _ _ h => h) (Or.inl ⟨by rfl, ?_⟩) (by assumption) ?_
      · intro w' hSw
        (try dsimp only at hSw)
        go_simp <;> first | exact i64_in (by omega) (by omega) | exact u32_in (by omega) (by omega) | exact u32_add _ _ | (rw [Int.tmod_eq_emod_of_nonneg (by omega)]; omega) | (rw [Int.tdiv_eq_ediv_of_nonneg (by omega)]; omega) | omega
      (try simp only [Act.put, List.setIfInBounds_toArray, List.set_cons_zero, List.set_cons_succ])
      refine wpAnyH_take (i := 5) (v := (.int .i64 (A : Int))) rfl (by kernel_rfl) (by kernel_rfl) (by kernel_rfl) (fun _ _ _ h => h) (Or.inl ⟨by rfl, ?_⟩) (by assumption) ?_
      · intro w' hSw
        (try dsimp only at hSw)
        (obtain ⟨hS1, hS2⟩ := hSw; go_simp)
      (try simp only [Act.put, List.setIfInBounds_toArray, List.set_cons_zero, List.set_cons_succ])
      refine wpAnyH_take (i := 7) (v := (.pointer (some ⟨w.heap.size + 1 + 1, 0, none⟩))) rfl (by kernel_rfl) (by kernel_rfl) (by kernel_rfl) (fun _ _ _ h => h) (Or.inl ⟨by rfl, ?_⟩) (by assumption) ?_
      · intro w' hSw
        (try dsimp only at hSw)
        go_simp <;> first | exact i64_in (by omega) (by omega) | exact u32_in (by omega) (by omega) | exact u32_add _ _ | (rw [Int.tmod_eq_emod_of_nonneg (by omega)]; omega) | (rw [Int.tdiv_eq_ediv_of_nonneg (by omega)]; omega) | omega
      (try simp only [Act.put, List.setIfInBounds_toArray, List.set_cons_zero, List.set_cons_succ])
      refine wpAnyH_ready (rs := [6]) (by kernel_rfl) (by simp) ?_
      refine AllReadyH.cons rfl (fun K hK => ?_) AllReadyH.nil
      go_simp
      refine Calls.mono (CO.out _ hnx.drew) ?_
      rintro e w9 ⟨rfl, hb9⟩
      have c9 := (hb9.cell (p := ⟨w.heap.size + 1 + 1, k, none⟩) hl3).trans hcell
      have f9 := (hb9.frozen (p := ⟨w.heap.size + 1 + 1, k, none⟩) hl3).trans hfr
      have b0 := (hb9.block w.heap.size hl1).trans HS0.out
      have b1 := (hb9.block _ hl2).trans hres
      have b2 := (hb9.block _ hl3).trans ht
      have b3 := hnx.drew.trans (hb9.mono (show w.heap.size ≤ wr.drew.heap.size from hnx.size))
      have hH9 : w9.rangeAt w.heap.size 0 SV ∧ w9.cell? ⟨w.heap.size, k, none⟩ = some (.int .i64 (A : Int)) := by
        constructor
        · rw [← hSV] at b0 ⊢
          exact range_steps b0
        · exact (hb9.cell (p := ⟨w.heap.size, k, none⟩) hl1).trans hck
      refine hK.out _ _ hH9 (fun hHeld => ?_)
      clear hK K
      (try simp only [Act.put, List.setIfInBounds_toArray, List.set_cons_zero, List.set_cons_succ])
      refine wpAnyH_take (i := 8) (v := (.pointer (some ⟨w.heap.size + 1 + 1, k, none⟩))) rfl (by kernel_rfl) (by kernel_rfl) (by kernel_rfl) (fun _ _ _ h => h) (Or.inl ⟨by rfl, ?_⟩) (by assumption) ?_
      · intro w' hSw
        (try dsimp only at hSw)
        go_simp <;> first | exact i64_in (by omega) (by omega) | exact u32_in (by omega) (by omega) | exact u32_add _ _ | (rw [Int.tmod_eq_emod_of_nonneg (by omega)]; omega) | (rw [Int.tdiv_eq_ediv_of_nonneg (by omega)]; omega) | omega
      (try simp only [Act.put, List.setIfInBounds_toArray, List.set_cons_zero, List.set_cons_succ])
      refine wpAnyH_ready (rs := [9]) (by kernel_rfl) (by simp) ?_
      refine AllReadyH.cons rfl (fun K hK => ?_) AllReadyH.nil
      go_simp
      have d0 : (w9.setCell ⟨w.heap.size + 1 + 1, k, none⟩ (.int .i64 (V : Int))).heap[w.heap.size]? = some (.cells SV.toArray 104 (0, 0)) :=
        (Below.heap_setCell w9 ⟨w.heap.size + 1 + 1, k, none⟩ _ w.heap.size (by show w.heap.size ≠ w.heap.size + 1 + 1; omega)).trans b0
      have d1 : (w9.setCell ⟨w.heap.size + 1 + 1, k, none⟩ (.int .i64 (V : Int))).heap[w.heap.size + 1]? = some (.cells cs 104 (0, 0)) :=
        (Below.heap_setCell w9 ⟨w.heap.size + 1 + 1, k, none⟩ _ (w.heap.size + 1) (by show w.heap.size + 1 ≠ w.heap.size + 1 + 1; omega)).trans b1
      have d2 : (w9.setCell ⟨w.heap.size + 1 + 1, k, none⟩ (.int .i64 (V : Int))).heap[w.heap.size + 1 + 1]? = some (.cells (tK (2 * m) (k + 1)).toArray 104 (0, 0)) := by
        have := Joins.block_setCell (i := k) b2 (.int .i64 (V : Int))
        rw [List.setIfInBounds_toArray, HSET.out] at this
        exact this
      have d3 : Below w.heap.size w (w9.setCell ⟨w.heap.size + 1 + 1, k, none⟩ (.int .i64 (V : Int))) := b3.setCell (by show w.heap.size ≤ w.heap.size + 1 + 1; omega) _
      have hHn : (w9.setCell ⟨w.heap.size + 1 + 1, k, none⟩ (.int .i64 (V : Int))).rangeAt w.heap.size 0 SV ∧ (w9.setCell ⟨w.heap.size + 1 + 1, k, none⟩ (.int .i64 (V : Int))).cell? ⟨w.heap.size, k, none⟩ = some (.int .i64 (A : Int)) := by
        constructor
        · rw [← hSV] at d0 ⊢
          exact range_steps d0
        · have e1 := cell_of_row _ _ k _ _ _ d0
          have e2 := cell_of_row _ _ k _ _ _ b0
          rw [e1, ← e2]
          exact hH9.2
      refine hK.out _ _ hHn (fun hHeld => ?_)
      clear hK K
      (try simp only [Act.put, List.setIfInBounds_toArray, List.set_cons_zero, List.set_cons_succ])
      refine wpAnyH_done (by kernel_rfl) ?_ _
      clear hHn hHeld hH9 b0 b1 b2 b3 c9 f9 hrg hck
      generalize (w9.setCell ⟨w.heap.size + 1 + 1, k, none⟩ (.int .i64 (V : Int))) = wn at *
      go_wp2
      go_roundw
      case rel => exact ⟨k + 1, by omega, by go_num, d0, d2, ⟨cs, hcs, d1⟩, d3⟩
      case measure => simp [intOf]; omega
    · obtain rfl : k = 32 := by omega
      rw [tK_full] at ht
      have hr := range_steps ht
      have hlen := stepsV_len (2 * m)
      have hone := stepsV_one (2 * m)
      have hth : wr.there (w.heap.size + 1) 0 (stepsV (2 * m)).toArray.size := there_row hres (by rw [List.size_toArray, hlen]; omega)
      have hth' : (wr.setCells (w.heap.size + 1) 0 (stepsV (2 * m))).rangeAt (w.heap.size + 1) 0 (stepsV (2 * m)) := World.rangeAt_setCells_same _ _ _ _ (by simpa using hth)
      have hn' : Below w.heap.size w (wr.setCells (w.heap.size + 1) 0 (stepsV (2 * m))) := below_setCells hnx (by omega) _
      generalize hWA : stepsV (2 * m) = WA at *
      go_wp2_with (first
        | (refine wpList_load_mid rfl 104 _ rfl (w.heap.size + 1 + 1) 0 rfl WA _ hr Tryz.underlying104 rfl (by rw [hlen]; kernel_rfl) ?_)
        | (refine wpList_store_mid rfl 104 _ _ rfl (w.heap.size + 1) 0 WA.toArray rfl rfl hth (by rw [List.size_toArray, hlen]; kernel_rfl) hone ?_))
      refine bodyPost_ret (v := .agg WA.toArray) ?_ rfl ⟨by first | rfl | rw [hWA], hn'⟩
      have hlv := run_loadVar_mid (P := Tryz.prog) _ (w.heap.size + 1) 0 104 WA _ hth' Tryz.underlying104 rfl (by rw [hlen]; kernel_rfl)
      simp [results, Tryz.results82, asAddr, hlv, Act.put]
end Go.Proofs.YtgdopepghmjopaaGreatDoor
namespace Go.Proofs.YtgdopepghmjopaaGreatDoor
open Go.RowKit
set_option maxRecDepth 100000 in
/-- the document's step -/
theorem rstepN_any (n : Nat) (hn : n < 4294967296) (w : World) :
    Calls Tryz.prog 80 #[.int .i64 (n : Int)] w fun e w' => e = .returned (.int .i64 (stp n : Int)) ∧ w = w' := by
  by_cases h2 : n % 2 = 0
  · have hq : ((n : Int) % 2 == 0) = true := by rw [show (n : Int) % 2 = 0 by omega]; rfl
    have hr : Hid ((n : Int) / 2 = (stp n : Int)) := by show _ = _; unfold stp; rw [if_pos h2]; omega
    go_enter Tryz.func80, Tryz.ntmps80
    go_wp2
    go_ret
    exact ⟨by rw [← hr.out]; rfl, rfl⟩
  · have hq : ((n : Int) % 2 == 0) = false := by rw [show (n : Int) % 2 = 1 by omega]; rfl
    have hx : bits .xor .i64 ((n : Int) / 2) 3988292384 = (stp n : Int) := by
      have := bxor64 (n / 2) 3988292384 (by omega) (by omega)
      rw [show ((n / 2 : Nat) : Int) = (n : Int) / 2 by omega] at this
      unfold stp
      rw [if_neg h2]
      exact this
    go_enter Tryz.func80, Tryz.ntmps80
    go_wp2
    go_ret
    exact ⟨rfl, rfl⟩
theorem range_below {w w' : World} {b : Nat} {cs : List Value} (h : w.rangeAt b 0 cs) (hb : Below w.heap.size w w') (hl : b < w.heap.size) : w'.rangeAt b 0 cs := fun j v hv => (hb.cell hl).trans (h j v hv)
theorem there_below {w w' : World} {b n : Nat} (h : w.there b 0 n) (hb : Below w.heap.size w w') (hl : b < w.heap.size) : w'.there b 0 n := fun j hj => by
  have := h j hj
  exact ⟨by rw [hb.cell hl]; exact this.1, by rw [hb.frozen hl]; exact this.2⟩
theorem size_setCells' (w : World) (b : Nat) : ∀ (vs : List Value) (o : Nat), (w.setCells b o vs).heap.size = w.heap.size := by
  intro vs
  induction vs generalizing w with
  | nil => intro o; rfl
  | cons v vs ih => intro o; exact (ih (w.setCell ⟨b, o, none⟩ v) (o + 1)).trans (World.size_setCell _ _ _)
set_option maxHeartbeats 1000000 in
set_option maxRecDepth 100000 in
set_option linter.unusedSimpArgs false in
/-- the document's CRCJoin, of good arguments -/
theorem rjoin_ok (a b n : Nat) (ha : a < 4294967296) (hb : b < 4294967296) (hn : n ≤ 9007199254740992) (w : World) (hT : TabP w) :
    Calls Tryz.prog 58 #[.int .i64 (a : Int), .int .i64 (b : Int), .int .i64 (n : Int)] w fun e w' => e = .returned (.tuple #[.int .i64 ((stps (8 * n) a ^^^ b : Nat) : Int), .int .i64 0]) ∧ Below w.heap.size w w' := by
  have hg : 0 < w.heap.size := World.block_lt_of_cell? w _ (hT 0 (by omega))
  have HT := hide hT
  clear hT
  have d1 : decide ((a : Int) < 0) = false := by rw [decide_eq_false_iff_not]; omega
  have d2 : decide ((4294967296 : Int) ≤ (a : Int)) = false := by rw [decide_eq_false_iff_not]; omega
  have d3 : decide ((b : Int) < 0) = false := by rw [decide_eq_false_iff_not]; omega
  have d4 : decide ((4294967296 : Int) ≤ (b : Int)) = false := by rw [decide_eq_false_iff_not]; omega
  have d5 : decide ((n : Int) < 0) = false := by rw [decide_eq_false_iff_not]; omega
  have d6 : decide ((9007199254740992 : Int) < (n : Int)) = false := by rw [decide_eq_false_iff_not]; omega
  have HA := hide ha
  have HB := hide hb
  have HN := hide hn
  clear ha hb hn
  go_enter Tryz.func58, Tryz.ntmps58
  go_wp2_with fail
  clear d1 d2 d3 d4 d5 d6
  go_loopw [9] (fun i wr => ∃ k : Nat, k ≤ 32 ∧ i = .int .i64 k ∧ wr.heap[w.heap.size]? = some (.cells (tK 1 k).toArray 104 (0, 0)) ∧ Below w.heap.size w wr)
    (fun i _ => 32 - (intOf i).toNat)
  case atStart =>
    refine ⟨0, by omega, rfl, ?_, (Below.refl _ w).alloc (Nat.le_refl _) _⟩
    rw [tK_zero]
    exact heap_new0 w _
  case round =>
    obtain ⟨k, hk, rfl, ht, hnx⟩ := hrel
    by_cases hlt : k < 32
    · have hp : 2 ^ k < 4294967296 := Nat.lt_of_le_of_lt (Nat.pow_le_pow_right (by omega) (show k ≤ 31 by omega)) (by omega)
      have HSET := hide (tK_set 1 k hlt)
      have hcell : wr.cell? ⟨w.heap.size, k, none⟩ = some (.int .i64 0) := by
        rw [cell_of_row wr _ k _ _ _ ht]
        have := tK_get 1 k k hlt
        rw [if_neg (by omega)] at this
        simpa using this
      have hfr : wr.frozen? ⟨w.heap.size, k, none⟩ = false := by simp [World.frozen?, ht]
      have c1 := HT.out.below hnx hg k hlt
      have CS : Hid (∀ w', Calls Tryz.prog 80 #[.int .i64 ((2 ^ k : Nat) : Int)] w' fun e w'' => e = .returned (.int .i64 (stps 1 (2 ^ k) : Int)) ∧ w' = w'') := fun w' => rstepN_any (2 ^ k) hp w'
      have i0 : (0 : Int) ≤ (k : Int) := by omega
      have i1 : (k : Int) < 32 := by omega
      have hb' : (wr.setCell ⟨w.heap.size, k, none⟩ (.int .i64 (stps 1 (2 ^ k) : Int))).heap[w.heap.size]? = some (.cells (tK 1 (k + 1)).toArray 104 (0, 0)) := by
        have := Joins.block_setCell (i := k) ht (.int .i64 (stps 1 (2 ^ k) : Int))
        rw [List.setIfInBounds_toArray, HSET.out] at this
        exact this
      have HB' := hide hb'
      clear hb' HSET hp
      generalize stps 1 (2 ^ k) = V at *
      generalize 2 ^ k = P at *
      go_wp2_with fail
      refine Calls.mono (CS.out _) ?_
      rintro e wx ⟨rfl, rfl⟩
      go_wp2
      go_roundw
      case rel => exact ⟨k + 1, by omega, by go_num, HB'.out, hnx.setCell (Nat.le_refl _) _⟩
      case measure => simp [intOf]; omega
    · rw [show k = 32 by omega, tK_full] at ht
      have hk32 : (32 : Int) ≤ (k : Int) := by omega
      have hr := range_steps ht
      have hth : wr.there w.heap.size 0 32 := there_row ht (by rw [List.size_toArray, stepsV_len]; omega)
      have hl := heap_lt ht
      have HR := hide hr
      have HTH := hide hth
      have hn8 : (8 * (n : Int)) ≤ 72057594037927936 := by have := HN.out; omega
      clear hr hth ht hlt hk
      go_wp2_with fail
      clear hk32
      go_loopw [0, 10] (fun x l wq => ∃ q p : Nat, l = .int .i64 (q : Int) ∧ q * p ≤ 8 * n ∧ q ≤ 72057594037927936 ∧ x = .int .i64 (stps (8 * n - q * p) a : Int) ∧ wq.rangeAt w.heap.size 0 (stepsV p) ∧ wq.there w.heap.size 0 32 ∧ w.heap.size < wq.heap.size ∧ Below w.heap.size w wq) (fun _ l _ => (intOf l).toNat)
      case atStart => exact ⟨8 * n, 1, by rw [Int.natCast_mul]; rfl, by omega, by omega, by rw [Nat.mul_one, Nat.sub_self]; rfl, HR.out, HTH.out, hl, hnx⟩
      case round =>
        clear HR HTH hl hnx hn8
        obtain ⟨q, p, rfl, hqp, hq, rfl, hr, hth, hl, hnx⟩ := hrel
        have HA4 := HA.out
        have HB4 := HB.out
        have hx := stps_lt (8 * n - q * p) HA4
        by_cases h0 : q = 0
        · subst h0
          rw [Nat.zero_mul, Nat.sub_zero] at hx ⊢
          have hxx := bxor64 (stps (8 * n) a) b hx HB4
          obtain ⟨Z, hZ⟩ : ∃ Z, Z = stps (8 * n) a ^^^ b := ⟨_, rfl⟩
          rw [← hZ] at hxx
          have HZ := hide hZ
          clear hZ
          generalize stps (8 * n) a = X at hx hxx ⊢
          go_wp2
          go_ret2
          exact ⟨by rw [← HZ.out]; rfl, hnx⟩
        · have hlen := stepsV_len p
          have hlen2 := stepsV_len (2 * p)
          have hone := stepsV_one (2 * p)
          have hpos : (0 : Int) < (q : Int) := by omega
          have CO : Hid (∀ w', Below w.heap.size w w' → Calls Tryz.prog 81 #[.agg (stepsV p).toArray, .int .i64 (stps (8 * n - q * p) a : Int)] w' fun e w'' => e = .returned (.int .i64 (stps p (stps (8 * n - q * p) a) : Int)) ∧ Below w'.heap.size w' w'') := fun w' hb => of_any p _ hx w' (HT.out.below hb hg)
          have CT : Hid (∀ w', Below w.heap.size w w' → Calls Tryz.prog 82 #[.agg (stepsV p).toArray] w' fun e w'' => e = .returned (.agg (stepsV (2 * p)).toArray) ∧ Below w'.heap.size w' w'') := fun w' hb => twice_any p w' (HT.out.below hb hg)
          by_cases hodd : q % 2 = 1
          · have hmm : q / 2 * (2 * p) = q * p - p := by
              have : q = 2 * (q / 2) + 1 := by omega
              generalize q / 2 = h at *
              subst this
              rw [Nat.add_mul, Nat.one_mul, Nat.add_sub_cancel, Nat.mul_comm 2 h, Nat.mul_assoc]
            have hpm : p ≤ q * p := Nat.le_mul_of_pos_left p (by omega)
            have hw : stps (8 * n - q / 2 * (2 * p)) a = stps p (stps (8 * n - q * p) a) := by
              rw [← stps_add, hmm]
              congr 1
              omega
            have HLE := hide (show q / 2 * (2 * p) ≤ 8 * n by omega)
            have hqq : ((q : Int) % 2 == 1) = true := by rw [show (q : Int) % 2 = 1 by omega]; rfl
            have HX2 := hide hw
            clear hw hmm hpm hqp
            generalize stps p (stps (8 * n - q * p) a) = X2 at *
            generalize stps (8 * n - q * p) a = X at *
            generalize stepsV p = SV at *
            generalize hSV2 : stepsV (2 * p) = SV2 at *
            have HSV2 := hide hSV2
            clear hSV2
            go_wp2_with (refine wpList_load_mid rfl 104 _ rfl w.heap.size 0 rfl SV _ hr Tryz.underlying104 rfl (by rw [hlen]; kernel_rfl) ?_)
            refine Calls.mono (CO.out _ hnx) ?_
            rintro e w9 ⟨rfl, hb9⟩
            have hr9 := range_below hr hb9 hl
            have hth9 := there_below hth hb9 hl
            have hl9 := Nat.lt_of_lt_of_le hl hb9.size
            have hn9 := hnx.trans (hb9.mono (show w.heap.size ≤ wr.heap.size from hnx.size))
            clear hr hth hl hnx hb9 CO
            go_wp2_with (refine wpList_load_mid rfl 104 _ rfl w.heap.size 0 rfl SV _ hr9 Tryz.underlying104 rfl (by rw [hlen]; kernel_rfl) ?_)
            refine Calls.mono (CT.out _ hn9) ?_
            rintro e w10 ⟨rfl, hb10⟩
            have hth10 := there_below hth9 hb10 hl9
            have hl10 := Nat.lt_of_lt_of_le hl9 hb10.size
            have hn10 := hn9.trans (hb10.mono (show w.heap.size ≤ w9.heap.size from hn9.size))
            clear hr9 hth9 hl9 hn9 hb10 CT
            have hthS : w10.there w.heap.size 0 SV2.toArray.size := (show SV2.toArray.size = 32 by simp [hlen2]) ▸ hth10
            have e1 : (w10.setCells w.heap.size 0 SV2).rangeAt w.heap.size 0 SV2 := World.rangeAt_setCells_same _ _ _ _ (by simpa using hthS)
            have e2 : (w10.setCells w.heap.size 0 SV2).there w.heap.size 0 32 := World.there_setCells hth10 _ _ _
            have e3 : w.heap.size < (w10.setCells w.heap.size 0 SV2).heap.size := by rw [size_setCells']; exact hl10
            have e4 : Below w.heap.size w (w10.setCells w.heap.size 0 SV2) := below_setCells hn10 (Nat.le_refl _) _
            go_wp2_with (refine wpList_store_mid rfl 104 _ _ rfl w.heap.size 0 SV2.toArray rfl rfl hthS (by rw [List.size_toArray, hlen2]; kernel_rfl) hone ?_)
            go_roundw
            case rel => exact ⟨q / 2, 2 * p, by go_num, HLE.out, by omega, by rw [HX2.out], by rw [HSV2.out]; exact e1, e2, e3, e4⟩
            case measure => simp [intOf]; omega
          · have hmm : q / 2 * (2 * p) = q * p := by
              have : q = 2 * (q / 2) := by omega
              generalize q / 2 = h at *
              subst this
              rw [Nat.mul_comm 2 h, Nat.mul_assoc]
            have hw : stps (8 * n - q / 2 * (2 * p)) a = stps (8 * n - q * p) a := by rw [hmm]
            have HLE := hide (show q / 2 * (2 * p) ≤ 8 * n by omega)
            have hqq : ((q : Int) % 2 == 1) = false := by rw [show (q : Int) % 2 = 0 by omega]; rfl
            have HX2 := hide hw
            clear hw hmm hqp CO
            generalize stps (8 * n - q * p) a = X at *
            generalize stepsV p = SV at *
            generalize hSV2 : stepsV (2 * p) = SV2 at *
            have HSV2 := hide hSV2
            clear hSV2
            go_wp2_with (refine wpList_load_mid rfl 104 _ rfl w.heap.size 0 rfl SV _ hr Tryz.underlying104 rfl (by rw [hlen]; kernel_rfl) ?_)
            refine Calls.mono (CT.out _ hnx) ?_
            rintro e w10 ⟨rfl, hb10⟩
            have hth10 := there_below hth hb10 hl
            have hl10 := Nat.lt_of_lt_of_le hl hb10.size
            have hn10 := hnx.trans (hb10.mono (show w.heap.size ≤ wr.heap.size from hnx.size))
            clear hr hth hl hnx hb10 CT
            have hthS : w10.there w.heap.size 0 SV2.toArray.size := (show SV2.toArray.size = 32 by simp [hlen2]) ▸ hth10
            have e1 : (w10.setCells w.heap.size 0 SV2).rangeAt w.heap.size 0 SV2 := World.rangeAt_setCells_same _ _ _ _ (by simpa using hthS)
            have e2 : (w10.setCells w.heap.size 0 SV2).there w.heap.size 0 32 := World.there_setCells hth10 _ _ _
            have e3 : w.heap.size < (w10.setCells w.heap.size 0 SV2).heap.size := by rw [size_setCells']; exact hl10
            have e4 : Below w.heap.size w (w10.setCells w.heap.size 0 SV2) := below_setCells hn10 (Nat.le_refl _) _
            go_wp2_with (refine wpList_store_mid rfl 104 _ _ rfl w.heap.size 0 SV2.toArray rfl rfl hthS (by rw [List.size_toArray, hlen2]; kernel_rfl) hone ?_)
            go_roundw
            case rel => exact ⟨q / 2, 2 * p, by go_num, HLE.out, by omega, by rw [HX2.out], by rw [HSV2.out]; exact e1, e2, e3, e4⟩
            case measure => simp [intOf]; omega
end Go.Proofs.YtgdopepghmjopaaGreatDoor
