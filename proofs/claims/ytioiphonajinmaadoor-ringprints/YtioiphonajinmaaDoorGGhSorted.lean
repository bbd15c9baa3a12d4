import Derived.Test.YtioiphonajinmaaDoorGGhSort
import Derived.Test.YtioiphonajinmaaDoorGGcApp
import Derived.Test.YtioiphonajinmaaDoorGDgPlain
import Derived.Shelf.Strconv.Itoa3
import Derived.Test.YtioiphonajinmaaDoorProg
import Derived.Deep.RegionHeld3
import Derived.ProofKit
namespace Go.Proofs.YtioiphonajinmaaDoor
open Go.RowKit
/-- names, as they lie there -/
def nmc (l : List (List UInt8)) : List Value := l.map fun s => .string (strOf s)
theorem nmc_len (l : List (List UInt8)) : (nmc l).length = l.length := by simp [nmc]
theorem nmc_append (a b : List (List UInt8)) : nmc (a ++ b) = nmc a ++ nmc b := by simp [nmc]
theorem nmc_at (l : List (List UInt8)) (q : Nat) (h : q < l.length) : (nmc l)[q]? = some (.string (strOf l[q])) := by simp [nmc, h]
theorem nmc_one (l : List (List UInt8)) : ∀ u ∈ nmc l, u.oneCell' = true := by
  intro u hu
  obtain ⟨s, _, rfl⟩ := List.mem_map.1 hu
  rfl
theorem insA_len (l : List (List UInt8)) : (insA l).length = l.length := by
  have := (fold_perm l []).length_eq
  simpa [insA] using this
/-- slices.Sort of names -/
theorem sort_names (w : World) (base g cap : Nat) (L : List (List UInt8)) (h : w.ownsRow base 9 1 (.slice (some ⟨g, 0, none⟩) L.length cap) L.length (nmc L)) (hl : L.length < 4611686018427387904) :
    Calls Tryd.prog 50 #[.slice (some ⟨g, 0, none⟩) L.length cap] w fun e w' => e = .returned (.tuple #[]) ∧ w'.ownsRow base 9 1 (.slice (some ⟨g, 0, none⟩) L.length cap) L.length (nmc (insA L)) ∧ Below base w w' := by
  rcases h.2 with ⟨e, _⟩ | ⟨g', cap', cur, e, hb, hg, hc1, hc2, hc3, hc4⟩
  · cases e
  injection e with e1 e2 e3
  injection e1 with e1
  injection e1 with e1
  subst e1
  subst e3
  rw [Nat.mul_one] at hc3 hc4
  have hcur : ∀ j (hj : j < L.length), cur[j]? = some (.string (strOf L[j])) := fun j hj => by
    rw [← nmc_at L j hj, ← hc4, List.getElem?_take, if_pos hj, Array.getElem?_toList]
  have hH : Sort.Holds encStr w g 0 L.toArray := fun j hj => by
    have hj' : j < L.length := by simpa using hj
    constructor
    · unfold World.cell?
      rw [Nat.zero_add]
      simp only [hg]
      rw [show cur[j]? = _ from hcur j hj']
      simp only [Array.getElem!_eq_getD, Array.getD_eq_getD_getElem?]
      simp [hj', encStr, strOf]
    · unfold World.frozen?
      rw [hg]
      simp
  refine (Tryd.slices_Sort_string g 0 cap L w hH (blk_lt hg) hl).mono ?_
  rintro e w' ⟨rfl, n, os, rfl⟩
  rw [← insA_sort]
  have hlen := insA_len L
  refine ⟨rfl, ⟨by rw [nmc_len, hlen]; omega, Or.inr ⟨g, cap, Sort.putCells encStr 0 (insA L).toArray cur, rfl, hb, ?_, hc1, hc2, by simp [Sort.putCells, hc3], ?_⟩⟩, ?_⟩
  · rw [Sort.heap_grow_old _ _ (by rw [Sort.size_putRow]; exact blk_lt hg)]
    simp only [Sort.putRow, Sort.mapBlock, Sort.heap_ahead, Array.getElem?_modify, if_true, hg, Option.map_some, Sort.onCells]
  · refine List.ext_getElem? fun j => ?_
    rw [List.getElem?_take]
    by_cases hj : j < L.length
    · rw [if_pos (by omega), Array.getElem?_toList, nmc_at _ _ (by rw [hlen]; exact hj)]
      have hj2 : j < (insA L).length := by rw [hlen]; exact hj
      simp only [Sort.putCells, Array.getElem?_mapIdx, hcur j hj, Option.map_some]
      rw [if_pos ⟨Nat.zero_le _, by simpa using hj2⟩]
      simp [hj2, encStr, strOf]
    · rw [if_neg (by omega), List.getElem?_eq_none (by rw [nmc_len, hlen]; omega)]
  · refine ⟨rfl, rfl, rfl, by simp, fun i hi => ?_⟩
    by_cases hiw : i < w.heap.size
    · rw [Sort.heap_grow_old _ _ (by rw [Sort.size_putRow]; exact hiw)]
      simp only [Sort.putRow, Sort.mapBlock, Sort.heap_ahead, Array.getElem?_modify]
      rw [if_neg (by omega)]
    · exact absurd hi (by have := blk_lt hg; omega)
end Go.Proofs.YtioiphonajinmaaDoor
namespace Go.Proofs
open Go.Shelf Go.RowKit
def Tryd.lays171_ren : Go.Shelf.Ren := ⟨fun | 171 => 35 | 243 => 63 | 246 => 84 | 283 => 105 | 284 => 106 | 285 => 107 | 286 => 108 | 129 => 99 | 317 => 120 | 318 => 121 | 319 => 122 | 320 => 123 | 337 => 126 | 338 => 127 | n => n, fun | 3 => 3 | 9 => 9 | 2 => 2 | 4 => 4 | 171 => 173 | 0 => 0 | 53 => 129 | 37 => 84 | 5 => 5 | 173 => 175 | 212 => 189 | 51 => 74 | 20 => 20 | 213 => 190 | 46 => 125 | 232 => 196 | 233 => 77 | n => n, fun | 17 => 7 | 18 => 9 | 19 => 10 | n => n⟩
theorem Tryd.lays171 : Go.Proofs.Lays.n171 Tryd.prog Tryd.lays171_ren := {
  mixed := by kernel_rfl
  f129 := Tryd.func99.trans (congrArg some (by kernel_rfl))
  f171 := Tryd.func35.trans (congrArg some (by kernel_rfl))
  f243 := Tryd.func63.trans (congrArg some (by kernel_rfl))
  f246 := Tryd.func84.trans (congrArg some (by kernel_rfl))
  f283 := Tryd.func105.trans (congrArg some (by kernel_rfl))
  f284 := Tryd.func106.trans (congrArg some (by kernel_rfl))
  f285 := Tryd.func107.trans (congrArg some (by kernel_rfl))
  f286 := Tryd.func108.trans (congrArg some (by kernel_rfl))
  f317 := Tryd.func120.trans (congrArg some (by kernel_rfl))
  f318 := Tryd.func121.trans (congrArg some (by kernel_rfl))
  f319 := Tryd.func122.trans (congrArg some (by kernel_rfl))
  f320 := Tryd.func123.trans (congrArg some (by kernel_rfl))
  f337 := Tryd.func126.trans (congrArg some (by kernel_rfl))
  f338 := Tryd.func127.trans (congrArg some (by kernel_rfl))
  t0 := Tryd.underlying0
  a0 := Tryd.isAgg0
  z0 := Tryd.sizeOf0
  v0 := Tryd.zeroValue0
  t2 := Tryd.underlying2
  a2 := Tryd.isAgg2
  z2 := Tryd.sizeOf2
  v2 := Tryd.zeroValue2
  t3 := Tryd.underlying3
  a3 := Tryd.isAgg3
  z3 := Tryd.sizeOf3
  v3 := Tryd.zeroValue3
  t4 := Tryd.underlying4
  a4 := Tryd.isAgg4
  z4 := Tryd.sizeOf4
  v4 := Tryd.zeroValue4
  t5 := Tryd.underlying5
  a5 := Tryd.isAgg5
  z5 := Tryd.sizeOf5
  v5 := Tryd.zeroValue5
  t9 := Tryd.underlying9
  a9 := Tryd.isAgg9
  z9 := Tryd.sizeOf9
  v9 := Tryd.zeroValue9
  t20 := Tryd.underlying20
  a20 := Tryd.isAgg20
  z20 := Tryd.sizeOf20
  v20 := Tryd.zeroValue20
  t37 := Tryd.underlying84
  a37 := Tryd.isAgg84
  z37 := Tryd.sizeOf84
  v37 := Tryd.zeroValue84
  t46 := Tryd.underlying125
  a46 := Tryd.isAgg125
  z46 := Tryd.sizeOf125
  v46 := Tryd.zeroValue125
  t51 := Tryd.underlying74
  a51 := Tryd.isAgg74
  z51 := Tryd.sizeOf74
  v51 := Tryd.zeroValue74
  t53 := Tryd.underlying129
  a53 := Tryd.isAgg129
  z53 := Tryd.sizeOf129
  v53 := Tryd.zeroValue129
  t171 := Tryd.underlying173
  a171 := Tryd.isAgg173
  z171 := Tryd.sizeOf173
  v171 := Tryd.zeroValue173
  t173 := Tryd.underlying175
  a173 := Tryd.isAgg175
  z173 := Tryd.sizeOf175
  v173 := Tryd.zeroValue175
  t212 := Tryd.underlying189
  a212 := Tryd.isAgg189
  z212 := Tryd.sizeOf189
  v212 := Tryd.zeroValue189
  t213 := Tryd.underlying190
  a213 := Tryd.isAgg190
  z213 := Tryd.sizeOf190
  t232 := Tryd.underlying196
  a232 := Tryd.isAgg196
  z232 := Tryd.sizeOf196
  v232 := Tryd.zeroValue196
  t233 := Tryd.underlying77
  a233 := Tryd.isAgg77
  z233 := Tryd.sizeOf77
  v233 := Tryd.zeroValue77
  g17 := by kernel_rfl
  g18 := by kernel_rfl
  g19 := by kernel_rfl }
open Go.RowKit Go.Sort Go.Lib in

theorem Tryd.strconv_Itoa_small (i : Nat) (hi : i < 100) (w : World) :
    Calls Tryd.prog 35 #[.int .i64 i] w fun e w' => e = .returned (.string ⟨(Lib.decDigits i).toArray⟩) ∧ w' = w := Any.strconv_Itoa_small Tryd.lays171 i hi w
end Go.Proofs
namespace Go.Proofs.YtioiphonajinmaaDoor
open Go.RowKit Go.Shelf
theorem ba_eq {a b : ByteArray} (h : a.data.toList = b.data.toList) : a = b := by rw [← strOf_toList a, h, strOf_toList]
theorem ba_app (a b : ByteArray) : (a ++ b).data.toList = a.data.toList ++ b.data.toList := by simp
set_option maxHeartbeats 4000000 in
set_option maxRecDepth 100000 in
set_option linter.unusedSimpArgs false in
/-- titleOf -/
theorem titleOf_any (p r c : Nat) (d : Bool) (hp : p < 100) (hr : r < 100) (hc : c < 100) (w : World) :
    Calls Tryd.prog 48 #[.agg #[.int .i64 (p : Int), .int .i64 (r : Int), .int .i64 (c : Int), .bool d]] w fun e w' => e = .returned (.agg #[.string (strOf (dd p)), .string (strOf (dd r)), .string (strOf (dd c)), .string (strOf (endW d))]) ∧ Below w.heap.size w w' := by
  cases d with
  | true =>
    obtain ⟨W0, hW0⟩ : ∃ W0, W0 = (w.alloc (.cells #[.int .i64 (p : Int), .int .i64 (r : Int), .int .i64 (c : Int), .bool true] 113)).alloc (.cells #[.string ⟨#[]⟩, .string ⟨#[]⟩, .string ⟨#[]⟩, .string ⟨#[]⟩] 115) := ⟨_, rfl⟩
    have b0 : Below w.heap.size w W0 := by rw [hW0]; exact ((Below.refl _ w).alloc (Nat.le_refl _) _).alloc (by simp) _
    have s0 : W0.heap.size = w.heap.size + 2 := by rw [hW0]; simp
    have Q0 : Hid (∀ w', Below W0.heap.size W0 w' → w'.cell? ⟨w.heap.size, 0, none⟩ = some (.int .i64 (p : Int)) ∧ w'.cell? ⟨w.heap.size, 1, none⟩ = some (.int .i64 (r : Int)) ∧ w'.cell? ⟨w.heap.size, 2, none⟩ = some (.int .i64 (c : Int))) := fun w' hb => by
      rw [hb.cell (by show w.heap.size < _; omega), hb.cell (by show w.heap.size < _; omega), hb.cell (by show w.heap.size < _; omega), hW0]
      exact ⟨by simp, by simp, by simp⟩
    have I1 := hide (fun w' => Tryd.strconv_Itoa_small p hp w')
    have I2 := hide (fun w' => Tryd.strconv_Itoa_small r hr w')
    have I3 := hide (fun w' => Tryd.strconv_Itoa_small c hc w')
    have e0 : strOf (endW true) = ⟨#[100, 97, 116, 97]⟩ := rfl
    rw [e0]
    unfold strOf dd
    generalize Lib.decDigits p = X1 at *
    generalize Lib.decDigits r = X2 at *
    generalize Lib.decDigits c = X3 at *
    go_enter Tryd.func48, Tryd.ntmps48
    go_wp2
    rw [← hW0]
    have BW := hide (Below.refl W0.heap.size W0).drew
    refine wp_region_held_drew (S := fun w' => w'.cell? ⟨w.heap.size, 0, none⟩ = some (.int .i64 (p : Int)) ∧ w'.cell? ⟨w.heap.size, 1, none⟩ = some (.int .i64 (r : Int)) ∧ w'.cell? ⟨w.heap.size, 2, none⟩ = some (.int .i64 (c : Int))) (by kernel_rfl) (Q0.out _ BW.out) (fun hHeld => ?_)
    refine wpAnyH_take (i := 0) (v := (.pointer (some ⟨w.heap.size, 0, none⟩))) rfl (by kernel_rfl) (by kernel_rfl) (by kernel_rfl) (fun _ _ _ h => h) (Or.inl ⟨by rfl, ?_⟩) (by assumption) ?_
    · intro w' hSw
      (try dsimp only at hSw)
      go_simp <;> first | exact i64_in (by omega) (by omega) | exact u32_in (by omega) (by omega) | exact u32_add _ _ | (rw [Int.tmod_eq_emod_of_nonneg (by omega)]; omega) | (rw [Int.tdiv_eq_ediv_of_nonneg (by omega)]; omega) | omega
    (try simp only [Act.put, List.setIfInBounds_toArray, List.set_cons_zero, List.set_cons_succ])
    refine wpAnyH_take (i := 1) (v := (.int .i64 (p : Int))) rfl (by kernel_rfl) (by kernel_rfl) (by kernel_rfl) (fun _ _ _ h => h) (Or.inl ⟨by rfl, ?_⟩) (by assumption) ?_
    · intro w' hSw
      (try dsimp only at hSw)
      (obtain ⟨hS1, hS2, hS3⟩ := hSw; go_simp)
    (try simp only [Act.put, List.setIfInBounds_toArray, List.set_cons_zero, List.set_cons_succ])
    refine wpAnyH_take (i := 3) (v := (.pointer (some ⟨w.heap.size, 1, none⟩))) rfl (by kernel_rfl) (by kernel_rfl) (by kernel_rfl) (fun _ _ _ h => h) (Or.inl ⟨by rfl, ?_⟩) (by assumption) ?_
    · intro w' hSw
      (try dsimp only at hSw)
      go_simp <;> first | exact i64_in (by omega) (by omega) | exact u32_in (by omega) (by omega) | exact u32_add _ _ | (rw [Int.tmod_eq_emod_of_nonneg (by omega)]; omega) | (rw [Int.tdiv_eq_ediv_of_nonneg (by omega)]; omega) | omega
    (try simp only [Act.put, List.setIfInBounds_toArray, List.set_cons_zero, List.set_cons_succ])
    refine wpAnyH_take (i := 4) (v := (.int .i64 (r : Int))) rfl (by kernel_rfl) (by kernel_rfl) (by kernel_rfl) (fun _ _ _ h => h) (Or.inl ⟨by rfl, ?_⟩) (by assumption) ?_
    · intro w' hSw
      (try dsimp only at hSw)
      (obtain ⟨hS1, hS2, hS3⟩ := hSw; go_simp)
    (try simp only [Act.put, List.setIfInBounds_toArray, List.set_cons_zero, List.set_cons_succ])
    refine wpAnyH_take (i := 6) (v := (.pointer (some ⟨w.heap.size, 2, none⟩))) rfl (by kernel_rfl) (by kernel_rfl) (by kernel_rfl) (fun _ _ _ h => h) (Or.inl ⟨by rfl, ?_⟩) (by assumption) ?_
    · intro w' hSw
      (try dsimp only at hSw)
      go_simp <;> first | exact i64_in (by omega) (by omega) | exact u32_in (by omega) (by omega) | exact u32_add _ _ | (rw [Int.tmod_eq_emod_of_nonneg (by omega)]; omega) | (rw [Int.tdiv_eq_ediv_of_nonneg (by omega)]; omega) | omega
    (try simp only [Act.put, List.setIfInBounds_toArray, List.set_cons_zero, List.set_cons_succ])
    refine wpAnyH_take (i := 7) (v := (.int .i64 (c : Int))) rfl (by kernel_rfl) (by kernel_rfl) (by kernel_rfl) (fun _ _ _ h => h) (Or.inl ⟨by rfl, ?_⟩) (by assumption) ?_
    · intro w' hSw
      (try dsimp only at hSw)
      (obtain ⟨hS1, hS2, hS3⟩ := hSw; go_simp)
    (try simp only [Act.put, List.setIfInBounds_toArray, List.set_cons_zero, List.set_cons_succ])
    refine wpAnyH_take (i := 9) (v := (.string ⟨#[100, 97, 116, 97]⟩)) rfl (by kernel_rfl) (by kernel_rfl) (by kernel_rfl) (fun _ _ _ h => h) (Or.inl ⟨by rfl, ?_⟩) (by assumption) ?_
    · intro w' hSw
      (try dsimp only at hSw)
      go_simp <;> first | exact i64_in (by omega) (by omega) | exact u32_in (by omega) (by omega) | exact u32_add _ _ | (rw [Int.tmod_eq_emod_of_nonneg (by omega)]; omega) | (rw [Int.tdiv_eq_ediv_of_nonneg (by omega)]; omega) | omega
    (try simp only [Act.put, List.setIfInBounds_toArray, List.set_cons_zero, List.set_cons_succ])
    refine wpAnyH_ready (rs := [2]) (by kernel_rfl) (by simp) ?_
    refine AllReadyH.cons rfl (fun K hK => ?_) AllReadyH.nil
    go_simp
    refine Calls.mono (I1.out _) ?_
    rintro x w2 ⟨rfl, rfl⟩
    refine hK.out _ _ ((by rw [← hW0]; exact Q0.out _ BW.out)) (fun hHeld => ?_)
    clear hK
    (try simp only [Act.put, List.setIfInBounds_toArray, List.set_cons_zero, List.set_cons_succ])
    refine wpAnyH_ready (rs := [5]) (by kernel_rfl) (by simp) ?_
    refine AllReadyH.cons rfl (fun K hK => ?_) AllReadyH.nil
    go_simp
    refine Calls.mono (I2.out _) ?_
    rintro x w3 ⟨rfl, rfl⟩
    refine hK.out _ _ ((by rw [← hW0]; exact Q0.out _ BW.out)) (fun hHeld => ?_)
    clear hK
    (try simp only [Act.put, List.setIfInBounds_toArray, List.set_cons_zero, List.set_cons_succ])
    refine wpAnyH_ready (rs := [8]) (by kernel_rfl) (by simp) ?_
    refine AllReadyH.cons rfl (fun K hK => ?_) AllReadyH.nil
    go_simp
    refine Calls.mono (I3.out _) ?_
    rintro x w4 ⟨rfl, rfl⟩
    refine hK.out _ _ ((by rw [← hW0]; exact Q0.out _ BW.out)) (fun hHeld => ?_)
    clear hK
    (try simp only [Act.put, List.setIfInBounds_toArray, List.set_cons_zero, List.set_cons_succ])
    refine wpAnyH_take (i := 10) (v := (.agg #[.string ⟨X1.toArray⟩, .string ⟨X2.toArray⟩, .string ⟨X3.toArray⟩, .string ⟨#[100, 97, 116, 97]⟩])) rfl (by kernel_rfl) (by kernel_rfl) (by kernel_rfl) (fun _ _ _ h => h) (Or.inl ⟨by rfl, ?_⟩) (by assumption) ?_
    · intro w' hSw
      (try dsimp only at hSw)
      go_simp <;> first | exact i64_in (by omega) (by omega) | exact u32_in (by omega) (by omega) | exact u32_add _ _ | (rw [Int.tmod_eq_emod_of_nonneg (by omega)]; omega) | (rw [Int.tdiv_eq_ediv_of_nonneg (by omega)]; omega) | omega
    (try simp only [Act.put, List.setIfInBounds_toArray, List.set_cons_zero, List.set_cons_succ])
    refine wpAnyH_ready (rs := [11]) (by kernel_rfl) (by simp) ?_
    refine AllReadyH.cons rfl (fun K hK => ?_) AllReadyH.nil
    go_simp
    refine hK.out _ _ (⟨by simp, by simp, by simp⟩) (fun hHeld => ?_)
    clear hK
    (try simp only [Act.put, List.setIfInBounds_toArray, List.set_cons_zero, List.set_cons_succ])
    refine wpAnyH_done (by kernel_rfl) ?_ _
    clear hHeld
    go_wp2
    refine bodyPost_ret (v := .agg #[.string ⟨X1.toArray⟩, .string ⟨X2.toArray⟩, .string ⟨X3.toArray⟩, .string ⟨#[100, 97, 116, 97]⟩]) (by simp [results, Tryd.results48, go_sem]) rfl ⟨rfl, ?_⟩
    exact (((Below.refl _ w).alloc (Nat.le_refl _) _).alloc (by simp) _).drew
  | false =>
    obtain ⟨W0, hW0⟩ : ∃ W0, W0 = (w.alloc (.cells #[.int .i64 (p : Int), .int .i64 (r : Int), .int .i64 (c : Int), .bool false] 113)).alloc (.cells #[.string ⟨#[]⟩, .string ⟨#[]⟩, .string ⟨#[]⟩, .string ⟨#[]⟩] 115) := ⟨_, rfl⟩
    have b0 : Below w.heap.size w W0 := by rw [hW0]; exact ((Below.refl _ w).alloc (Nat.le_refl _) _).alloc (by simp) _
    have s0 : W0.heap.size = w.heap.size + 2 := by rw [hW0]; simp
    have Q0 : Hid (∀ w', Below W0.heap.size W0 w' → w'.cell? ⟨w.heap.size, 0, none⟩ = some (.int .i64 (p : Int)) ∧ w'.cell? ⟨w.heap.size, 1, none⟩ = some (.int .i64 (r : Int)) ∧ w'.cell? ⟨w.heap.size, 2, none⟩ = some (.int .i64 (c : Int))) := fun w' hb => by
      rw [hb.cell (by show w.heap.size < _; omega), hb.cell (by show w.heap.size < _; omega), hb.cell (by show w.heap.size < _; omega), hW0]
      exact ⟨by simp, by simp, by simp⟩
    have I1 := hide (fun w' => Tryd.strconv_Itoa_small p hp w')
    have I2 := hide (fun w' => Tryd.strconv_Itoa_small r hr w')
    have I3 := hide (fun w' => Tryd.strconv_Itoa_small c hc w')
    have e0 : strOf (endW false) = ⟨#[105, 110, 100, 101, 120]⟩ := rfl
    rw [e0]
    unfold strOf dd
    generalize Lib.decDigits p = X1 at *
    generalize Lib.decDigits r = X2 at *
    generalize Lib.decDigits c = X3 at *
    go_enter Tryd.func48, Tryd.ntmps48
    go_wp2
    rw [← hW0]
    have BW := hide (Below.refl W0.heap.size W0).drew
    refine wp_region_held_drew (S := fun w' => w'.cell? ⟨w.heap.size, 0, none⟩ = some (.int .i64 (p : Int)) ∧ w'.cell? ⟨w.heap.size, 1, none⟩ = some (.int .i64 (r : Int)) ∧ w'.cell? ⟨w.heap.size, 2, none⟩ = some (.int .i64 (c : Int))) (by kernel_rfl) (Q0.out _ BW.out) (fun hHeld => ?_)
    refine wpAnyH_take (i := 0) (v := (.pointer (some ⟨w.heap.size, 0, none⟩))) rfl (by kernel_rfl) (by kernel_rfl) (by kernel_rfl) (fun _ _ _ h => h) (Or.inl ⟨by rfl, ?_⟩) (by assumption) ?_
    · intro w' hSw
      (try dsimp only at hSw)
      go_simp <;> first | exact i64_in (by omega) (by omega) | exact u32_in (by omega) (by omega) | exact u32_add _ _ | (rw [Int.tmod_eq_emod_of_nonneg (by omega)]; omega) | (rw [Int.tdiv_eq_ediv_of_nonneg (by omega)]; omega) | omega
    (try simp only [Act.put, List.setIfInBounds_toArray, List.set_cons_zero, List.set_cons_succ])
    refine wpAnyH_take (i := 1) (v := (.int .i64 (p : Int))) rfl (by kernel_rfl) (by kernel_rfl) (by kernel_rfl) (fun _ _ _ h => h) (Or.inl ⟨by rfl, ?_⟩) (by assumption) ?_
    · intro w' hSw
      (try dsimp only at hSw)
      (obtain ⟨hS1, hS2, hS3⟩ := hSw; go_simp)
    (try simp only [Act.put, List.setIfInBounds_toArray, List.set_cons_zero, List.set_cons_succ])
    refine wpAnyH_take (i := 3) (v := (.pointer (some ⟨w.heap.size, 1, none⟩))) rfl (by kernel_rfl) (by kernel_rfl) (by kernel_rfl) (fun _ _ _ h => h) (Or.inl ⟨by rfl, ?_⟩) (by assumption) ?_
    · intro w' hSw
      (try dsimp only at hSw)
      go_simp <;> first | exact i64_in (by omega) (by omega) | exact u32_in (by omega) (by omega) | exact u32_add _ _ | (rw [Int.tmod_eq_emod_of_nonneg (by omega)]; omega) | (rw [Int.tdiv_eq_ediv_of_nonneg (by omega)]; omega) | omega
    (try simp only [Act.put, List.setIfInBounds_toArray, List.set_cons_zero, List.set_cons_succ])
    refine wpAnyH_take (i := 4) (v := (.int .i64 (r : Int))) rfl (by kernel_rfl) (by kernel_rfl) (by kernel_rfl) (fun _ _ _ h => h) (Or.inl ⟨by rfl, ?_⟩) (by assumption) ?_
    · intro w' hSw
      (try dsimp only at hSw)
      (obtain ⟨hS1, hS2, hS3⟩ := hSw; go_simp)
    (try simp only [Act.put, List.setIfInBounds_toArray, List.set_cons_zero, List.set_cons_succ])
    refine wpAnyH_take (i := 6) (v := (.pointer (some ⟨w.heap.size, 2, none⟩))) rfl (by kernel_rfl) (by kernel_rfl) (by kernel_rfl) (fun _ _ _ h => h) (Or.inl ⟨by rfl, ?_⟩) (by assumption) ?_
    · intro w' hSw
      (try dsimp only at hSw)
      go_simp <;> first | exact i64_in (by omega) (by omega) | exact u32_in (by omega) (by omega) | exact u32_add _ _ | (rw [Int.tmod_eq_emod_of_nonneg (by omega)]; omega) | (rw [Int.tdiv_eq_ediv_of_nonneg (by omega)]; omega) | omega
    (try simp only [Act.put, List.setIfInBounds_toArray, List.set_cons_zero, List.set_cons_succ])
    refine wpAnyH_take (i := 7) (v := (.int .i64 (c : Int))) rfl (by kernel_rfl) (by kernel_rfl) (by kernel_rfl) (fun _ _ _ h => h) (Or.inl ⟨by rfl, ?_⟩) (by assumption) ?_
    · intro w' hSw
      (try dsimp only at hSw)
      (obtain ⟨hS1, hS2, hS3⟩ := hSw; go_simp)
    (try simp only [Act.put, List.setIfInBounds_toArray, List.set_cons_zero, List.set_cons_succ])
    refine wpAnyH_take (i := 9) (v := (.string ⟨#[105, 110, 100, 101, 120]⟩)) rfl (by kernel_rfl) (by kernel_rfl) (by kernel_rfl) (fun _ _ _ h => h) (Or.inl ⟨by rfl, ?_⟩) (by assumption) ?_
    · intro w' hSw
      (try dsimp only at hSw)
      go_simp <;> first | exact i64_in (by omega) (by omega) | exact u32_in (by omega) (by omega) | exact u32_add _ _ | (rw [Int.tmod_eq_emod_of_nonneg (by omega)]; omega) | (rw [Int.tdiv_eq_ediv_of_nonneg (by omega)]; omega) | omega
    (try simp only [Act.put, List.setIfInBounds_toArray, List.set_cons_zero, List.set_cons_succ])
    refine wpAnyH_ready (rs := [2]) (by kernel_rfl) (by simp) ?_
    refine AllReadyH.cons rfl (fun K hK => ?_) AllReadyH.nil
    go_simp
    refine Calls.mono (I1.out _) ?_
    rintro x w2 ⟨rfl, rfl⟩
    refine hK.out _ _ ((by rw [← hW0]; exact Q0.out _ BW.out)) (fun hHeld => ?_)
    clear hK
    (try simp only [Act.put, List.setIfInBounds_toArray, List.set_cons_zero, List.set_cons_succ])
    refine wpAnyH_ready (rs := [5]) (by kernel_rfl) (by simp) ?_
    refine AllReadyH.cons rfl (fun K hK => ?_) AllReadyH.nil
    go_simp
    refine Calls.mono (I2.out _) ?_
    rintro x w3 ⟨rfl, rfl⟩
    refine hK.out _ _ ((by rw [← hW0]; exact Q0.out _ BW.out)) (fun hHeld => ?_)
    clear hK
    (try simp only [Act.put, List.setIfInBounds_toArray, List.set_cons_zero, List.set_cons_succ])
    refine wpAnyH_ready (rs := [8]) (by kernel_rfl) (by simp) ?_
    refine AllReadyH.cons rfl (fun K hK => ?_) AllReadyH.nil
    go_simp
    refine Calls.mono (I3.out _) ?_
    rintro x w4 ⟨rfl, rfl⟩
    refine hK.out _ _ ((by rw [← hW0]; exact Q0.out _ BW.out)) (fun hHeld => ?_)
    clear hK
    (try simp only [Act.put, List.setIfInBounds_toArray, List.set_cons_zero, List.set_cons_succ])
    refine wpAnyH_take (i := 10) (v := (.agg #[.string ⟨X1.toArray⟩, .string ⟨X2.toArray⟩, .string ⟨X3.toArray⟩, .string ⟨#[105, 110, 100, 101, 120]⟩])) rfl (by kernel_rfl) (by kernel_rfl) (by kernel_rfl) (fun _ _ _ h => h) (Or.inl ⟨by rfl, ?_⟩) (by assumption) ?_
    · intro w' hSw
      (try dsimp only at hSw)
      go_simp <;> first | exact i64_in (by omega) (by omega) | exact u32_in (by omega) (by omega) | exact u32_add _ _ | (rw [Int.tmod_eq_emod_of_nonneg (by omega)]; omega) | (rw [Int.tdiv_eq_ediv_of_nonneg (by omega)]; omega) | omega
    (try simp only [Act.put, List.setIfInBounds_toArray, List.set_cons_zero, List.set_cons_succ])
    refine wpAnyH_ready (rs := [11]) (by kernel_rfl) (by simp) ?_
    refine AllReadyH.cons rfl (fun K hK => ?_) AllReadyH.nil
    go_simp
    refine hK.out _ _ (⟨by simp, by simp, by simp⟩) (fun hHeld => ?_)
    clear hK
    (try simp only [Act.put, List.setIfInBounds_toArray, List.set_cons_zero, List.set_cons_succ])
    refine wpAnyH_done (by kernel_rfl) ?_ _
    clear hHeld
    go_wp2
    refine bodyPost_ret (v := .agg #[.string ⟨X1.toArray⟩, .string ⟨X2.toArray⟩, .string ⟨X3.toArray⟩, .string ⟨#[105, 110, 100, 101, 120]⟩]) (by simp [results, Tryd.results48, go_sem]) rfl ⟨rfl, ?_⟩
    exact (((Below.refl _ w).alloc (Nat.le_refl _) _).alloc (by simp) _).drew
def us : ByteArray := ⟨#[95]⟩
def dot : ByteArray := ⟨#[46]⟩
set_option maxHeartbeats 1000000 in
set_option maxRecDepth 100000 in
/-- name -/
theorem name_any (a b c e : ByteArray) (h1 : a.size ≤ 1000) (h2 : b.size ≤ 1000) (h3 : c.size ≤ 1000) (h4 : e.size ≤ 1000) (w : World) :
    Calls Tryd.prog 49 #[.agg #[.string a, .string b, .string c, .string e]] w fun x w' => x = .returned (.string (a ++ us ++ b ++ us ++ c ++ dot ++ e)) ∧ Below w.heap.size w w' := by
  have y1 : us.size = 1 := rfl
  have y2 : dot.size = 1 := rfl
  have hus : (⟨#[95]⟩ : ByteArray) = us := rfl
  have hdot : (⟨#[46]⟩ : ByteArray) = dot := rfl
  go_enter Tryd.func49, Tryd.ntmps49
  go_wp2
  go_ret
  exact ⟨rfl, (Below.refl _ _).alloc (Nat.le_refl _) _⟩
end Go.Proofs.YtioiphonajinmaaDoor
namespace Go.Proofs.YtioiphonajinmaaDoor
open Go.RowKit Go.Shelf
theorem fnD_eq (p r c : Nat) : strOf (dd p) ++ us ++ strOf (dd r) ++ us ++ strOf (dd c) = strOf (dd p ++ 95 :: (dd r ++ 95 :: dd c)) := by
  apply ba_eq
  have e1 : us.data.toList = [95] := rfl
  simp only [ba_app, strOf_data, e1, List.append_assoc, List.cons_append, List.nil_append]
theorem fnE_eq (p r c : Nat) (d : Bool) : strOf (dd p) ++ us ++ strOf (dd r) ++ us ++ strOf (dd c) ++ strOf (46 :: endW d) = strOf (fnL (p, r, c, d)) := by
  apply ba_eq
  have e1 : us.data.toList = [95] := rfl
  unfold fnL
  simp only [ba_app, strOf_data, e1, List.append_assoc, List.cons_append, List.nil_append]
set_option maxHeartbeats 4000000 in
set_option maxRecDepth 100000 in
set_option linter.unusedSimpArgs false in
theorem rfileName_ok (p r c : Nat) (d : Bool) (w : World) (h : Val (p, r, c, d)) :
    Calls Tryd.prog 51 #[.agg #[.int .i64 (p : Int), .int .i64 (r : Int), .int .i64 (c : Int), .bool d]] w fun x w' => x = .returned (.tuple #[.string (strOf (fnL (p, r, c, d))), .int .i64 0]) ∧ Below w.heap.size w w' := by
  obtain ⟨h1, h2, h3⟩ := h
  simp only at h1 h2 h3
  have g1 : ¬ (p : Int) < 0 := by omega
  have g2 : ¬ (64 : Int) ≤ (p : Int) := by omega
  have g3 : ¬ (r : Int) < 0 := by omega
  have g4 : ¬ (16 : Int) ≤ (r : Int) := by omega
  have g5 : ¬ (c : Int) < 0 := by omega
  have g6 : ¬ (16 : Int) ≤ (c : Int) := by omega
  have I1 : Hid (∀ w', Calls Tryd.prog 35 #[.int .i64 (p : Int)] w' fun e w'' => e = .returned (.string (strOf (dd p))) ∧ w'' = w') := fun w' => Tryd.strconv_Itoa_small p (by omega) w'
  have I2 : Hid (∀ w', Calls Tryd.prog 35 #[.int .i64 (r : Int)] w' fun e w'' => e = .returned (.string (strOf (dd r))) ∧ w'' = w') := fun w' => Tryd.strconv_Itoa_small r (by omega) w'
  have I3 : Hid (∀ w', Calls Tryd.prog 35 #[.int .i64 (c : Int)] w' fun e w'' => e = .returned (.string (strOf (dd c))) ∧ w'' = w') := fun w' => Tryd.strconv_Itoa_small c (by omega) w'
  have z1 : (strOf (dd p)).size ≤ 2 := by rw [strOf_size]; exact dd_len h1
  have z2 : (strOf (dd r)).size ≤ 2 := by rw [strOf_size]; exact dd_len16 h2
  have z3 : (strOf (dd c)).size ≤ 2 := by rw [strOf_size]; exact dd_len16 h3
  have y1 : us.size = 1 := rfl
  have hus : (⟨#[95]⟩ : ByteArray) = us := rfl
  cases d with
  | true =>
    obtain ⟨W0, hW0⟩ : ∃ W0, W0 = w.alloc (.cells #[.int .i64 (p : Int), .int .i64 (r : Int), .int .i64 (c : Int), .bool true] 113) := ⟨_, rfl⟩
    have B0 : Hid (Below w.heap.size w W0) := by rw [hW0]; exact (Below.refl _ w).alloc (Nat.le_refl _) _
    have s0 : w.heap.size < W0.heap.size := by rw [hW0]; simp
    have Q0 : Hid (∀ w', Below W0.heap.size W0 w' → w'.cell? ⟨w.heap.size, 0, none⟩ = some (.int .i64 (p : Int)) ∧ w'.cell? ⟨w.heap.size, 1, none⟩ = some (.int .i64 (r : Int)) ∧ w'.cell? ⟨w.heap.size, 2, none⟩ = some (.int .i64 (c : Int)) ∧ w'.cell? ⟨w.heap.size, 3, none⟩ = some (.bool true)) := fun w' hb => by
      rw [hb.cell (by exact s0), hb.cell (by exact s0), hb.cell (by exact s0), hb.cell (by exact s0), hW0]
      exact ⟨by simp, by simp, by simp, by simp⟩
    rw [← fnE_eq]
    have e0 : strOf (46 :: endW true) = ⟨#[46, 100, 97, 116, 97]⟩ := rfl
    rw [e0]
    have y3 : (⟨#[46, 100, 97, 116, 97]⟩ : ByteArray).size ≤ 6 := by decide
    generalize strOf (dd p) = X1 at *
    generalize strOf (dd r) = X2 at *
    generalize strOf (dd c) = X3 at *
    go_enter Tryd.func51, Tryd.ntmps51
    go_wp2_with fail
    rw [← hW0]
    clear hW0
    have BW := hide (Below.refl W0.heap.size W0).drew
    refine wp_region_held_drew (S := fun w' => w'.cell? ⟨w.heap.size, 0, none⟩ = some (.int .i64 (p : Int)) ∧ w'.cell? ⟨w.heap.size, 1, none⟩ = some (.int .i64 (r : Int)) ∧ w'.cell? ⟨w.heap.size, 2, none⟩ = some (.int .i64 (c : Int)) ∧ w'.cell? ⟨w.heap.size, 3, none⟩ = some (.bool true)) (by kernel_rfl) (Q0.out _ BW.out) (fun hHeld => ?_)
    refine wpAnyH_take (i := 0) (v := (.pointer (some ⟨w.heap.size, 0, none⟩))) rfl (by kernel_rfl) (by kernel_rfl) (by kernel_rfl) (fun _ _ _ h => h) (Or.inl ⟨by rfl, ?_⟩) (by assumption) ?_
    · intro w' hSw
      (try dsimp only at hSw)
      go_simp <;> first | exact i64_in (by omega) (by omega) | exact u32_in (by omega) (by omega) | exact u32_add _ _ | (rw [Int.tmod_eq_emod_of_nonneg (by omega)]; omega) | (rw [Int.tdiv_eq_ediv_of_nonneg (by omega)]; omega) | omega
    (try simp only [Act.put, List.setIfInBounds_toArray, List.set_cons_zero, List.set_cons_succ])
    refine wpAnyH_take (i := 1) (v := (.int .i64 (p : Int))) rfl (by kernel_rfl) (by kernel_rfl) (by kernel_rfl) (fun _ _ _ h => h) (Or.inl ⟨by rfl, ?_⟩) (by assumption) ?_
    · intro w' hSw
      (try dsimp only at hSw)
      (obtain ⟨hS1, hS2, hS3, hS4⟩ := hSw; go_simp)
    (try simp only [Act.put, List.setIfInBounds_toArray, List.set_cons_zero, List.set_cons_succ])
    refine wpAnyH_take (i := 4) (v := (.pointer (some ⟨w.heap.size, 1, none⟩))) rfl (by kernel_rfl) (by kernel_rfl) (by kernel_rfl) (fun _ _ _ h => h) (Or.inl ⟨by rfl, ?_⟩) (by assumption) ?_
    · intro w' hSw
      (try dsimp only at hSw)
      go_simp <;> first | exact i64_in (by omega) (by omega) | exact u32_in (by omega) (by omega) | exact u32_add _ _ | (rw [Int.tmod_eq_emod_of_nonneg (by omega)]; omega) | (rw [Int.tdiv_eq_ediv_of_nonneg (by omega)]; omega) | omega
    (try simp only [Act.put, List.setIfInBounds_toArray, List.set_cons_zero, List.set_cons_succ])
    refine wpAnyH_take (i := 5) (v := (.int .i64 (r : Int))) rfl (by kernel_rfl) (by kernel_rfl) (by kernel_rfl) (fun _ _ _ h => h) (Or.inl ⟨by rfl, ?_⟩) (by assumption) ?_
    · intro w' hSw
      (try dsimp only at hSw)
      (obtain ⟨hS1, hS2, hS3, hS4⟩ := hSw; go_simp)
    (try simp only [Act.put, List.setIfInBounds_toArray, List.set_cons_zero, List.set_cons_succ])
    refine wpAnyH_take (i := 9) (v := (.pointer (some ⟨w.heap.size, 2, none⟩))) rfl (by kernel_rfl) (by kernel_rfl) (by kernel_rfl) (fun _ _ _ h => h) (Or.inl ⟨by rfl, ?_⟩) (by assumption) ?_
    · intro w' hSw
      (try dsimp only at hSw)
      go_simp <;> first | exact i64_in (by omega) (by omega) | exact u32_in (by omega) (by omega) | exact u32_add _ _ | (rw [Int.tmod_eq_emod_of_nonneg (by omega)]; omega) | (rw [Int.tdiv_eq_ediv_of_nonneg (by omega)]; omega) | omega
    (try simp only [Act.put, List.setIfInBounds_toArray, List.set_cons_zero, List.set_cons_succ])
    refine wpAnyH_take (i := 10) (v := (.int .i64 (c : Int))) rfl (by kernel_rfl) (by kernel_rfl) (by kernel_rfl) (fun _ _ _ h => h) (Or.inl ⟨by rfl, ?_⟩) (by assumption) ?_
    · intro w' hSw
      (try dsimp only at hSw)
      (obtain ⟨hS1, hS2, hS3, hS4⟩ := hSw; go_simp)
    (try simp only [Act.put, List.setIfInBounds_toArray, List.set_cons_zero, List.set_cons_succ])
    refine wpAnyH_ready (rs := [2]) (by kernel_rfl) (by simp) ?_
    refine AllReadyH.cons rfl (fun K hK => ?_) AllReadyH.nil
    go_simp
    refine Calls.mono (I1.out _) ?_
    rintro x w2 ⟨rfl, rfl⟩
    refine hK.out _ _ (Q0.out _ BW.out) (fun hHeld => ?_)
    clear hK
    (try simp only [Act.put, List.setIfInBounds_toArray, List.set_cons_zero, List.set_cons_succ])
    refine wpAnyH_take (i := 3) (v := (.string (X1 ++ us))) rfl (by kernel_rfl) (by kernel_rfl) (by kernel_rfl) (fun _ _ _ h => h) (Or.inl ⟨by rfl, ?_⟩) (by assumption) ?_
    · intro w' hSw
      (try dsimp only at hSw)
      (go_simp; first | omega | (rw [if_neg (by (try simp only [ByteArray.size_append]); omega)]; rfl))
    (try simp only [Act.put, List.setIfInBounds_toArray, List.set_cons_zero, List.set_cons_succ])
    refine wpAnyH_ready (rs := [6]) (by kernel_rfl) (by simp) ?_
    refine AllReadyH.cons rfl (fun K hK => ?_) AllReadyH.nil
    go_simp
    refine Calls.mono (I2.out _) ?_
    rintro x w3 ⟨rfl, rfl⟩
    refine hK.out _ _ (Q0.out _ BW.out) (fun hHeld => ?_)
    clear hK
    (try simp only [Act.put, List.setIfInBounds_toArray, List.set_cons_zero, List.set_cons_succ])
    refine wpAnyH_take (i := 7) (v := (.string (X1 ++ us ++ X2))) rfl (by kernel_rfl) (by kernel_rfl) (by kernel_rfl) (fun _ _ _ h => h) (Or.inl ⟨by rfl, ?_⟩) (by assumption) ?_
    · intro w' hSw
      (try dsimp only at hSw)
      (go_simp; first | omega | (rw [if_neg (by (try simp only [ByteArray.size_append]); omega)]; rfl))
    (try simp only [Act.put, List.setIfInBounds_toArray, List.set_cons_zero, List.set_cons_succ])
    refine wpAnyH_take (i := 8) (v := (.string (X1 ++ us ++ X2 ++ us))) rfl (by kernel_rfl) (by kernel_rfl) (by kernel_rfl) (fun _ _ _ h => h) (Or.inl ⟨by rfl, ?_⟩) (by assumption) ?_
    · intro w' hSw
      (try dsimp only at hSw)
      (go_simp; first | omega | (rw [if_neg (by (try simp only [ByteArray.size_append]); omega)]; rfl))
    (try simp only [Act.put, List.setIfInBounds_toArray, List.set_cons_zero, List.set_cons_succ])
    refine wpAnyH_ready (rs := [11]) (by kernel_rfl) (by simp) ?_
    refine AllReadyH.cons rfl (fun K hK => ?_) AllReadyH.nil
    go_simp
    refine Calls.mono (I3.out _) ?_
    rintro x w4 ⟨rfl, rfl⟩
    refine hK.out _ _ (Q0.out _ BW.out) (fun hHeld => ?_)
    clear hK
    (try simp only [Act.put, List.setIfInBounds_toArray, List.set_cons_zero, List.set_cons_succ])
    refine wpAnyH_take (i := 12) (v := (.string (X1 ++ us ++ X2 ++ us ++ X3))) rfl (by kernel_rfl) (by kernel_rfl) (by kernel_rfl) (fun _ _ _ h => h) (Or.inl ⟨by rfl, ?_⟩) (by assumption) ?_
    · intro w' hSw
      (try dsimp only at hSw)
      (go_simp; first | omega | (rw [if_neg (by (try simp only [ByteArray.size_append]); omega)]; rfl))
    (try simp only [Act.put, List.setIfInBounds_toArray, List.set_cons_zero, List.set_cons_succ])
    refine wpAnyH_ready (rs := [13]) (by kernel_rfl) (by simp) ?_
    refine AllReadyH.cons rfl (fun K hK => ?_) AllReadyH.nil
    go_simp
    refine hK.out _ _ (Q0.out _ BW.out) (fun hHeld => ?_)
    clear hK
    (try simp only [Act.put, List.setIfInBounds_toArray, List.set_cons_zero, List.set_cons_succ])
    refine wpAnyH_done (by kernel_rfl) ?_ _
    clear hHeld
    obtain ⟨q0, q1, q2, q3⟩ := Q0.out _ BW.out
    have hsz : (X1 ++ us ++ X2 ++ us ++ X3).size ≤ 100 := by (try simp only [ByteArray.size_append]); omega
    obtain ⟨Y, hY⟩ : ∃ Y, Y = X1 ++ us ++ X2 ++ us ++ X3 := ⟨_, rfl⟩
    rw [← hY] at hsz ⊢
    have HY := hide hY
    clear hY
    go_wp2_with fail
    go_ret2
    refine ⟨?_, B0.out.trans (BW.out.mono B0.out.size)⟩
    have hY := HY.out
    subst hY
    exact rfl
  | false =>
    obtain ⟨W0, hW0⟩ : ∃ W0, W0 = w.alloc (.cells #[.int .i64 (p : Int), .int .i64 (r : Int), .int .i64 (c : Int), .bool false] 113) := ⟨_, rfl⟩
    have B0 : Hid (Below w.heap.size w W0) := by rw [hW0]; exact (Below.refl _ w).alloc (Nat.le_refl _) _
    have s0 : w.heap.size < W0.heap.size := by rw [hW0]; simp
    have Q0 : Hid (∀ w', Below W0.heap.size W0 w' → w'.cell? ⟨w.heap.size, 0, none⟩ = some (.int .i64 (p : Int)) ∧ w'.cell? ⟨w.heap.size, 1, none⟩ = some (.int .i64 (r : Int)) ∧ w'.cell? ⟨w.heap.size, 2, none⟩ = some (.int .i64 (c : Int)) ∧ w'.cell? ⟨w.heap.size, 3, none⟩ = some (.bool false)) := fun w' hb => by
      rw [hb.cell (by exact s0), hb.cell (by exact s0), hb.cell (by exact s0), hb.cell (by exact s0), hW0]
      exact ⟨by simp, by simp, by simp, by simp⟩
    rw [← fnE_eq]
    have e0 : strOf (46 :: endW false) = ⟨#[46, 105, 110, 100, 101, 120]⟩ := rfl
    rw [e0]
    have y3 : (⟨#[46, 105, 110, 100, 101, 120]⟩ : ByteArray).size ≤ 6 := by decide
    generalize strOf (dd p) = X1 at *
    generalize strOf (dd r) = X2 at *
    generalize strOf (dd c) = X3 at *
    go_enter Tryd.func51, Tryd.ntmps51
    go_wp2_with fail
    rw [← hW0]
    clear hW0
    have BW := hide (Below.refl W0.heap.size W0).drew
    refine wp_region_held_drew (S := fun w' => w'.cell? ⟨w.heap.size, 0, none⟩ = some (.int .i64 (p : Int)) ∧ w'.cell? ⟨w.heap.size, 1, none⟩ = some (.int .i64 (r : Int)) ∧ w'.cell? ⟨w.heap.size, 2, none⟩ = some (.int .i64 (c : Int)) ∧ w'.cell? ⟨w.heap.size, 3, none⟩ = some (.bool false)) (by kernel_rfl) (Q0.out _ BW.out) (fun hHeld => ?_)
    refine wpAnyH_take (i := 0) (v := (.pointer (some ⟨w.heap.size, 0, none⟩))) rfl (by kernel_rfl) (by kernel_rfl) (by kernel_rfl) (fun _ _ _ h => h) (Or.inl ⟨by rfl, ?_⟩) (by assumption) ?_
    · intro w' hSw
      (try dsimp only at hSw)
      go_simp <;> first | exact i64_in (by omega) (by omega) | exact u32_in (by omega) (by omega) | exact u32_add _ _ | (rw [Int.tmod_eq_emod_of_nonneg (by omega)]; omega) | (rw [Int.tdiv_eq_ediv_of_nonneg (by omega)]; omega) | omega
    (try simp only [Act.put, List.setIfInBounds_toArray, List.set_cons_zero, List.set_cons_succ])
    refine wpAnyH_take (i := 1) (v := (.int .i64 (p : Int))) rfl (by kernel_rfl) (by kernel_rfl) (by kernel_rfl) (fun _ _ _ h => h) (Or.inl ⟨by rfl, ?_⟩) (by assumption) ?_
    · intro w' hSw
      (try dsimp only at hSw)
      (obtain ⟨hS1, hS2, hS3, hS4⟩ := hSw; go_simp)
    (try simp only [Act.put, List.setIfInBounds_toArray, List.set_cons_zero, List.set_cons_succ])
    refine wpAnyH_take (i := 4) (v := (.pointer (some ⟨w.heap.size, 1, none⟩))) rfl (by kernel_rfl) (by kernel_rfl) (by kernel_rfl) (fun _ _ _ h => h) (Or.inl ⟨by rfl, ?_⟩) (by assumption) ?_
    · intro w' hSw
      (try dsimp only at hSw)
      go_simp <;> first | exact i64_in (by omega) (by omega) | exact u32_in (by omega) (by omega) | exact u32_add _ _ | (rw [Int.tmod_eq_emod_of_nonneg (by omega)]; omega) | (rw [Int.tdiv_eq_ediv_of_nonneg (by omega)]; omega) | omega
    (try simp only [Act.put, List.setIfInBounds_toArray, List.set_cons_zero, List.set_cons_succ])
    refine wpAnyH_take (i := 5) (v := (.int .i64 (r : Int))) rfl (by kernel_rfl) (by kernel_rfl) (by kernel_rfl) (fun _ _ _ h => h) (Or.inl ⟨by rfl, ?_⟩) (by assumption) ?_
    · intro w' hSw
      (try dsimp only at hSw)
      (obtain ⟨hS1, hS2, hS3, hS4⟩ := hSw; go_simp)
    (try simp only [Act.put, List.setIfInBounds_toArray, List.set_cons_zero, List.set_cons_succ])
    refine wpAnyH_take (i := 9) (v := (.pointer (some ⟨w.heap.size, 2, none⟩))) rfl (by kernel_rfl) (by kernel_rfl) (by kernel_rfl) (fun _ _ _ h => h) (Or.inl ⟨by rfl, ?_⟩) (by assumption) ?_
    · intro w' hSw
      (try dsimp only at hSw)
      go_simp <;> first | exact i64_in (by omega) (by omega) | exact u32_in (by omega) (by omega) | exact u32_add _ _ | (rw [Int.tmod_eq_emod_of_nonneg (by omega)]; omega) | (rw [Int.tdiv_eq_ediv_of_nonneg (by omega)]; omega) | omega
    (try simp only [Act.put, List.setIfInBounds_toArray, List.set_cons_zero, List.set_cons_succ])
    refine wpAnyH_take (i := 10) (v := (.int .i64 (c : Int))) rfl (by kernel_rfl) (by kernel_rfl) (by kernel_rfl) (fun _ _ _ h => h) (Or.inl ⟨by rfl, ?_⟩) (by assumption) ?_
    · intro w' hSw
      (try dsimp only at hSw)
      (obtain ⟨hS1, hS2, hS3, hS4⟩ := hSw; go_simp)
    (try simp only [Act.put, List.setIfInBounds_toArray, List.set_cons_zero, List.set_cons_succ])
    refine wpAnyH_ready (rs := [2]) (by kernel_rfl) (by simp) ?_
    refine AllReadyH.cons rfl (fun K hK => ?_) AllReadyH.nil
    go_simp
    refine Calls.mono (I1.out _) ?_
    rintro x w2 ⟨rfl, rfl⟩
    refine hK.out _ _ (Q0.out _ BW.out) (fun hHeld => ?_)
    clear hK
    (try simp only [Act.put, List.setIfInBounds_toArray, List.set_cons_zero, List.set_cons_succ])
    refine wpAnyH_take (i := 3) (v := (.string (X1 ++ us))) rfl (by kernel_rfl) (by kernel_rfl) (by kernel_rfl) (fun _ _ _ h => h) (Or.inl ⟨by rfl, ?_⟩) (by assumption) ?_
    · intro w' hSw
      (try dsimp only at hSw)
      (go_simp; first | omega | (rw [if_neg (by (try simp only [ByteArray.size_append]); omega)]; rfl))
    (try simp only [Act.put, List.setIfInBounds_toArray, List.set_cons_zero, List.set_cons_succ])
    refine wpAnyH_ready (rs := [6]) (by kernel_rfl) (by simp) ?_
    refine AllReadyH.cons rfl (fun K hK => ?_) AllReadyH.nil
    go_simp
    refine Calls.mono (I2.out _) ?_
    rintro x w3 ⟨rfl, rfl⟩
    refine hK.out _ _ (Q0.out _ BW.out) (fun hHeld => ?_)
    clear hK
    (try simp only [Act.put, List.setIfInBounds_toArray, List.set_cons_zero, List.set_cons_succ])
    refine wpAnyH_take (i := 7) (v := (.string (X1 ++ us ++ X2))) rfl (by kernel_rfl) (by kernel_rfl) (by kernel_rfl) (fun _ _ _ h => h) (Or.inl ⟨by rfl, ?_⟩) (by assumption) ?_
    · intro w' hSw
      (try dsimp only at hSw)
      (go_simp; first | omega | (rw [if_neg (by (try simp only [ByteArray.size_append]); omega)]; rfl))
    (try simp only [Act.put, List.setIfInBounds_toArray, List.set_cons_zero, List.set_cons_succ])
    refine wpAnyH_take (i := 8) (v := (.string (X1 ++ us ++ X2 ++ us))) rfl (by kernel_rfl) (by kernel_rfl) (by kernel_rfl) (fun _ _ _ h => h) (Or.inl ⟨by rfl, ?_⟩) (by assumption) ?_
    · intro w' hSw
      (try dsimp only at hSw)
      (go_simp; first | omega | (rw [if_neg (by (try simp only [ByteArray.size_append]); omega)]; rfl))
    (try simp only [Act.put, List.setIfInBounds_toArray, List.set_cons_zero, List.set_cons_succ])
    refine wpAnyH_ready (rs := [11]) (by kernel_rfl) (by simp) ?_
    refine AllReadyH.cons rfl (fun K hK => ?_) AllReadyH.nil
    go_simp
    refine Calls.mono (I3.out _) ?_
    rintro x w4 ⟨rfl, rfl⟩
    refine hK.out _ _ (Q0.out _ BW.out) (fun hHeld => ?_)
    clear hK
    (try simp only [Act.put, List.setIfInBounds_toArray, List.set_cons_zero, List.set_cons_succ])
    refine wpAnyH_take (i := 12) (v := (.string (X1 ++ us ++ X2 ++ us ++ X3))) rfl (by kernel_rfl) (by kernel_rfl) (by kernel_rfl) (fun _ _ _ h => h) (Or.inl ⟨by rfl, ?_⟩) (by assumption) ?_
    · intro w' hSw
      (try dsimp only at hSw)
      (go_simp; first | omega | (rw [if_neg (by (try simp only [ByteArray.size_append]); omega)]; rfl))
    (try simp only [Act.put, List.setIfInBounds_toArray, List.set_cons_zero, List.set_cons_succ])
    refine wpAnyH_ready (rs := [13]) (by kernel_rfl) (by simp) ?_
    refine AllReadyH.cons rfl (fun K hK => ?_) AllReadyH.nil
    go_simp
    refine hK.out _ _ (Q0.out _ BW.out) (fun hHeld => ?_)
    clear hK
    (try simp only [Act.put, List.setIfInBounds_toArray, List.set_cons_zero, List.set_cons_succ])
    refine wpAnyH_done (by kernel_rfl) ?_ _
    clear hHeld
    obtain ⟨q0, q1, q2, q3⟩ := Q0.out _ BW.out
    have hsz : (X1 ++ us ++ X2 ++ us ++ X3).size ≤ 100 := by (try simp only [ByteArray.size_append]); omega
    obtain ⟨Y, hY⟩ : ∃ Y, Y = X1 ++ us ++ X2 ++ us ++ X3 := ⟨_, rfl⟩
    rw [← hY] at hsz ⊢
    have HY := hide hY
    clear hY
    go_wp2_with fail
    go_ret2
    refine ⟨?_, B0.out.trans (BW.out.mono B0.out.size)⟩
    have hY := HY.out
    subst hY
    exact rfl
end Go.Proofs.YtioiphonajinmaaDoor
