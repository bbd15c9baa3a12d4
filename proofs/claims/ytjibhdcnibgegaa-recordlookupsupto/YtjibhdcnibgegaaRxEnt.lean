import Derived.Test.YtjibhdcnibgegaaRrRef2
import Derived.Test.YtjibhdcnibgegaaReRead
namespace Go.Proofs.Ytjibhdcnibgegaa
open Go.RowKit
abbrev EN := ByteArray × Nat
def LiesE (b off : Nat) (w : World) (ps : List EN) : Prop := ∀ i (h : i < ps.length), w.cell? ⟨b, off + i * 2, none⟩ = some (.string ps[i].1) ∧ w.cell? ⟨b, off + i * 2 + 1, none⟩ = some (.int .i64 (ps[i].2 : Int))
set_option maxRecDepth 100000 in
theorem entryHash_any (k : ByteArray) (v : Nat) (w : World) : Calls Try.prog 59 #[.agg #[.string k, .int .i64 (v : Int)]] w fun e w' => e = .returned (.string k) ∧ Below w.heap.size w w' := by
  go_enter Try.func59, Try.ntmps59
  go_wp2
  go_ret
  refine ⟨rfl, ?_⟩
  first | exact Below.refl _ _ | exact (Below.refl _ w).alloc (Nat.le_refl _) _
set_option maxHeartbeats 1000000 in
set_option maxRecDepth 100000 in
set_option linter.unusedSimpArgs false in
/-- rise of entries -/
theorem riseE_any (ao : Option Addr) (b off cap : Nat) (ps : List EN) (i : Nat) (w : World) (hi : i < ps.length) (hlen : ps.length ≤ 1099511627776000) (hao : ao = some ⟨b, off, none⟩) (hb : b < w.heap.size) (hl : LiesE b off w ps) :
    Calls Try.prog 58 #[.slice ao ps.length cap, .int .i64 (i : Int), .func (.func 59) #[] #[]] w fun e w' => e = .returned (.int .i64 (if i = 0 then 1 else if ps[i].1 = (ps.getD (i - 1) default).1 then 0 else if lessS ps[i].1 (ps.getD (i - 1) default).1 then -1 else 1)) ∧ Below w.heap.size w w' := by
  subst hao
  by_cases h0 : i = 0
  · subst h0
    go_enter Try.func58, Try.ntmps58
    go_wp2
    go_ret
    exact ⟨rfl, Below.refl _ _⟩
  · obtain ⟨j, rfl⟩ : ∃ j, i = j + 1 := ⟨i - 1, by omega⟩
    have hj : j < ps.length := by omega
    obtain ⟨g0, g1⟩ := hl (j + 1) hi
    obtain ⟨g2, g3⟩ := hl j hj
    rw [if_neg h0, show j + 1 - 1 = j by omega, List.getD_eq_getElem?_getD, List.getElem?_eq_getElem hj, Option.getD_some]
    have HS : Hid (∀ w', Below w.heap.size w w' → w'.cell? ⟨b, off + (j + 1) * 2, none⟩ = some (.string ps[j + 1].1) ∧ w'.cell? ⟨b, off + (j + 1) * 2 + 1, none⟩ = some (.int .i64 (ps[j + 1].2 : Int)) ∧ w'.cell? ⟨b, off + j * 2, none⟩ = some (.string ps[j].1) ∧ w'.cell? ⟨b, off + j * 2 + 1, none⟩ = some (.int .i64 (ps[j].2 : Int))) := fun w' hw => by
      rw [hw.cell (by exact hb), hw.cell (by exact hb), hw.cell (by exact hb), hw.cell (by exact hb)]
      exact ⟨g0, g1, g2, g3⟩
    clear g0 g1 g2 g3 hl
    generalize ps[j + 1].1 = K1 at *
    generalize ps[j + 1].2 = V1 at *
    generalize ps[j].1 = K0 at *
    generalize ps[j].2 = V0 at *
    have hil : ((j + 1 : Nat) : Int) < (ps.length : Int) := by omega
    generalize ps.length = N at *
    clear h0
    have CM := hide (fun w' => compare_any K1 K0 w')
    generalize (if K1 = K0 then (0 : Int) else if lessS K1 K0 = true then -1 else 1) = Z at *
    have hz : (((j + 1 : Nat) : Int) == 0) = false := by simp; omega
    go_enter Try.func58, Try.ntmps58
    go_wp2
    refine wp_region_held_drew (S := fun w' => w'.cell? ⟨b, off + (j + 1) * 2, none⟩ = some (.string K1) ∧ w'.cell? ⟨b, off + (j + 1) * 2 + 1, none⟩ = some (.int .i64 (V1 : Int)) ∧ w'.cell? ⟨b, off + j * 2, none⟩ = some (.string K0) ∧ w'.cell? ⟨b, off + j * 2 + 1, none⟩ = some (.int .i64 (V0 : Int))) (by kernel_rfl) (HS.out _ (Below.refl _ _).drew) (fun hHeld => ?_)
    refine wpAnyH_take (i := 0) (v := (.func (.func 59) #[] #[])) rfl (by kernel_rfl) (by kernel_rfl) (by kernel_rfl) (fun _ _ _ h => h) (Or.inl ⟨by rfl, ?_⟩) (by assumption) ?_
    · intro w' hSw
      (try dsimp only at hSw)
      go_simp <;> first | exact i64_in (by omega) (by omega) | exact u32_in (by omega) (by omega) | exact u32_add _ _ | (rw [Int.tmod_eq_emod_of_nonneg (by omega)]; omega) | (rw [Int.tdiv_eq_ediv_of_nonneg (by omega)]; omega) | omega
    (try simp only [Act.put, List.setIfInBounds_toArray, List.set_cons_zero, List.set_cons_succ])
    refine wpAnyH_take (i := 1) (v := (.slice (some ⟨b, off, none⟩) N cap)) rfl (by kernel_rfl) (by kernel_rfl) (by kernel_rfl) (fun _ _ _ h => h) (Or.inl ⟨by rfl, ?_⟩) (by assumption) ?_
    · intro w' hSw
      (try dsimp only at hSw)
      go_simp <;> first | exact i64_in (by omega) (by omega) | exact u32_in (by omega) (by omega) | exact u32_add _ _ | (rw [Int.tmod_eq_emod_of_nonneg (by omega)]; omega) | (rw [Int.tdiv_eq_ediv_of_nonneg (by omega)]; omega) | omega
    (try simp only [Act.put, List.setIfInBounds_toArray, List.set_cons_zero, List.set_cons_succ])
    refine wpAnyH_take (i := 2) (v := (.int .i64 ((j + 1 : Nat) : Int))) rfl (by kernel_rfl) (by kernel_rfl) (by kernel_rfl) (fun _ _ _ h => h) (Or.inl ⟨by rfl, ?_⟩) (by assumption) ?_
    · intro w' hSw
      (try dsimp only at hSw)
      go_simp <;> first | exact i64_in (by omega) (by omega) | exact u32_in (by omega) (by omega) | exact u32_add _ _ | (rw [Int.tmod_eq_emod_of_nonneg (by omega)]; omega) | (rw [Int.tdiv_eq_ediv_of_nonneg (by omega)]; omega) | omega
    (try simp only [Act.put, List.setIfInBounds_toArray, List.set_cons_zero, List.set_cons_succ])
    refine wpAnyH_take (i := 3) (v := (.pointer (some ⟨b, off + (j + 1) * 2, none⟩))) rfl (by kernel_rfl) (by kernel_rfl) (by kernel_rfl) (fun _ _ _ h => h) (Or.inl ⟨by rfl, ?_⟩) (by assumption) ?_
    · intro w' hSw
      (try dsimp only at hSw)
      go_simp <;> first | exact i64_in (by omega) (by omega) | exact u32_in (by omega) (by omega) | exact u32_add _ _ | (rw [Int.tmod_eq_emod_of_nonneg (by omega)]; omega) | (rw [Int.tdiv_eq_ediv_of_nonneg (by omega)]; omega) | omega
    (try simp only [Act.put, List.setIfInBounds_toArray, List.set_cons_zero, List.set_cons_succ])
    refine wpAnyH_take (i := 4) (v := (.agg #[.string K1, .int .i64 (V1 : Int)])) rfl (by kernel_rfl) (by kernel_rfl) (by kernel_rfl) (fun _ _ _ h => h) (Or.inl ⟨by rfl, ?_⟩) (by assumption) ?_
    · intro w' hSw
      (try dsimp only at hSw)
      (obtain ⟨hS1, hS2, hS3, hS4⟩ := hSw; go_simp)
    (try simp only [Act.put, List.setIfInBounds_toArray, List.set_cons_zero, List.set_cons_succ])
    refine wpAnyH_take (i := 6) (v := (.func (.func 59) #[] #[])) rfl (by kernel_rfl) (by kernel_rfl) (by kernel_rfl) (fun _ _ _ h => h) (Or.inl ⟨by rfl, ?_⟩) (by assumption) ?_
    · intro w' hSw
      (try dsimp only at hSw)
      go_simp <;> first | exact i64_in (by omega) (by omega) | exact u32_in (by omega) (by omega) | exact u32_add _ _ | (rw [Int.tmod_eq_emod_of_nonneg (by omega)]; omega) | (rw [Int.tdiv_eq_ediv_of_nonneg (by omega)]; omega) | omega
    (try simp only [Act.put, List.setIfInBounds_toArray, List.set_cons_zero, List.set_cons_succ])
    refine wpAnyH_take (i := 7) (v := (.slice (some ⟨b, off, none⟩) N cap)) rfl (by kernel_rfl) (by kernel_rfl) (by kernel_rfl) (fun _ _ _ h => h) (Or.inl ⟨by rfl, ?_⟩) (by assumption) ?_
    · intro w' hSw
      (try dsimp only at hSw)
      go_simp <;> first | exact i64_in (by omega) (by omega) | exact u32_in (by omega) (by omega) | exact u32_add _ _ | (rw [Int.tmod_eq_emod_of_nonneg (by omega)]; omega) | (rw [Int.tdiv_eq_ediv_of_nonneg (by omega)]; omega) | omega
    (try simp only [Act.put, List.setIfInBounds_toArray, List.set_cons_zero, List.set_cons_succ])
    refine wpAnyH_take (i := 8) (v := (.int .i64 ((j + 1 : Nat) : Int))) rfl (by kernel_rfl) (by kernel_rfl) (by kernel_rfl) (fun _ _ _ h => h) (Or.inl ⟨by rfl, ?_⟩) (by assumption) ?_
    · intro w' hSw
      (try dsimp only at hSw)
      go_simp <;> first | exact i64_in (by omega) (by omega) | exact u32_in (by omega) (by omega) | exact u32_add _ _ | (rw [Int.tmod_eq_emod_of_nonneg (by omega)]; omega) | (rw [Int.tdiv_eq_ediv_of_nonneg (by omega)]; omega) | omega
    (try simp only [Act.put, List.setIfInBounds_toArray, List.set_cons_zero, List.set_cons_succ])
    refine wpAnyH_take (i := 9) (v := (.int .i64 (j : Int))) rfl (by kernel_rfl) (by kernel_rfl) (by kernel_rfl) (fun _ _ _ h => h) (Or.inl ⟨by rfl, ?_⟩) (by assumption) ?_
    · intro w' hSw
      (try dsimp only at hSw)
      go_simp <;> first | exact i64_in (by omega) (by omega) | exact u32_in (by omega) (by omega) | exact u32_add _ _ | (rw [Int.tmod_eq_emod_of_nonneg (by omega)]; omega) | (rw [Int.tdiv_eq_ediv_of_nonneg (by omega)]; omega) | omega
    (try simp only [Act.put, List.setIfInBounds_toArray, List.set_cons_zero, List.set_cons_succ])
    refine wpAnyH_take (i := 10) (v := (.pointer (some ⟨b, off + j * 2, none⟩))) rfl (by kernel_rfl) (by kernel_rfl) (by kernel_rfl) (fun _ _ _ h => h) (Or.inl ⟨by rfl, ?_⟩) (by assumption) ?_
    · intro w' hSw
      (try dsimp only at hSw)
      go_simp <;> first | exact i64_in (by omega) (by omega) | exact u32_in (by omega) (by omega) | exact u32_add _ _ | (rw [Int.tmod_eq_emod_of_nonneg (by omega)]; omega) | (rw [Int.tdiv_eq_ediv_of_nonneg (by omega)]; omega) | omega
    (try simp only [Act.put, List.setIfInBounds_toArray, List.set_cons_zero, List.set_cons_succ])
    refine wpAnyH_take (i := 11) (v := (.agg #[.string K0, .int .i64 (V0 : Int)])) rfl (by kernel_rfl) (by kernel_rfl) (by kernel_rfl) (fun _ _ _ h => h) (Or.inl ⟨by rfl, ?_⟩) (by assumption) ?_
    · intro w' hSw
      (try dsimp only at hSw)
      (obtain ⟨hS1, hS2, hS3, hS4⟩ := hSw; go_simp)
    (try simp only [Act.put, List.setIfInBounds_toArray, List.set_cons_zero, List.set_cons_succ])
    refine wpAnyH_ready (rs := [5]) (by kernel_rfl) (by simp) ?_
    refine AllReadyH.cons rfl (fun K hK => ?_) AllReadyH.nil
    go_simp
    refine Calls.mono (entryHash_any _ _ _) ?_
    rintro e w1 ⟨rfl, hb1⟩
    have B1 := (Below.refl w.heap.size w).drew.trans hb1
    refine hK.out _ _ (HS.out _ B1) (fun hHeld => ?_)
    clear hK K
    (try simp only [Act.put, List.setIfInBounds_toArray, List.set_cons_zero, List.set_cons_succ])
    refine wpAnyH_ready (rs := [12]) (by kernel_rfl) (by simp) ?_
    refine AllReadyH.cons rfl (fun K hK => ?_) AllReadyH.nil
    go_simp
    refine Calls.mono (entryHash_any _ _ _) ?_
    rintro e w2 ⟨rfl, hb2⟩
    have B2 := B1.trans (hb2.mono B1.size)
    refine hK.out _ _ (HS.out _ B2) (fun hHeld => ?_)
    clear hK K
    (try simp only [Act.put, List.setIfInBounds_toArray, List.set_cons_zero, List.set_cons_succ])
    refine wpAnyH_ready (rs := [13]) (by kernel_rfl) (by simp) ?_
    refine AllReadyH.cons rfl (fun K hK => ?_) AllReadyH.nil
    go_simp
    refine Calls.mono (CM.out _) ?_
    rintro e w3 ⟨rfl, rfl⟩
    refine hK.out _ _ (HS.out _ B2) (fun hHeld => ?_)
    clear hK K
    (try simp only [Act.put, List.setIfInBounds_toArray, List.set_cons_zero, List.set_cons_succ])
    refine wpAnyH_ready (rs := [14]) (by kernel_rfl) (by simp) ?_
    refine AllReadyH.cons rfl (fun K hK => ?_) AllReadyH.nil
    go_simp
    refine hK.out _ _ hHeld (fun hHeld => ?_)
    clear hK K
    (try simp only [Act.put, List.setIfInBounds_toArray, List.set_cons_zero, List.set_cons_succ])
    refine wpAnyH_done (by kernel_rfl) ?_ _
    go_wp2
    go_ret
    exact ⟨rfl, B2⟩
/-- the cells of entries -/
def ec (es : List EN) : List Value := es.flatMap fun p => [.string p.1, .int .i64 (p.2 : Int)]
theorem ec_len (ps : List EN) : (ec ps).length = ps.length * 2 := by
  induction ps with
  | nil => rfl
  | cons p r ih => unfold ec at ih ⊢; rw [List.flatMap_cons, List.length_append, ih]; simp; omega
theorem ec_append (a b : List EN) : ec (a ++ b) = ec a ++ ec b := by simp [ec]
theorem ec_at (ps : List EN) : ∀ i (h : i < ps.length), (ec ps)[i * 2]? = some (.string ps[i].1) ∧ (ec ps)[i * 2 + 1]? = some (.int .i64 (ps[i].2 : Int)) := by
  induction ps with
  | nil => intro i h; simp at h
  | cons p r ih =>
    intro i h
    cases i with
    | zero => exact ⟨rfl, rfl⟩
    | succ i =>
      have := ih i (by simpa using h)
      have e : ec (p :: r) = .string p.1 :: .int .i64 (p.2 : Int) :: ec r := rfl
      rw [e, show (i + 1) * 2 = i * 2 + 1 + 1 by omega]
      simpa using this
theorem ec_one (ps : List EN) : ∀ u ∈ ec ps, u.oneCell' = true := by
  intro u hu
  obtain ⟨p, _, hp⟩ := List.mem_flatMap.1 hu
  simp at hp
  rcases hp with rfl | rfl <;> rfl
theorem row_liesE {w : World} {base g cap n : Nat} {ps : List EN} {e : TypeId} (h : w.ownsRow base e 2 (.slice (some ⟨g, 0, none⟩) n cap) n (ec ps)) (hn : ps.length ≤ n) : LiesE g 0 w ps := by
  intro i hi
  have h0 := h.cellAt (i * 2) (by omega)
  have h1 := h.cellAt (i * 2 + 1) (by omega)
  obtain ⟨p0, p1⟩ := ec_at ps i hi
  rw [Nat.zero_add, h0, h1, p0, p1]
  exact ⟨rfl, rfl⟩
theorem infoE : (Try.prog.info? 75).map (fun i => (i.zero, i.size, i.bytes)) = some (some (.agg #[.string ⟨#[]⟩, .int .i64 0]), 2, 24) := by kernel_rfl
theorem ec_two (p : EN) : ec [p] = (#[.string p.1, .int .i64 (p.2 : Int)] : Array Value).toList := rfl
theorem cell_ent (w : World) (X : ByteArray) (O : Nat) : ∀ j u, (ec [(X, O)])[j]? = some u → (w.alloc (.cells #[.string X, .int .i64 (O : Int)] 75)).cell? ((⟨w.heap.size, 0, none⟩ : Addr).add j) = some u := by
  rw [ec_two]
  exact (World.ownsRow_lit (base := 0) (e := 75) (size := 2) w _ 1 (by omega) (by unfold maxLen; omega) rfl).cells (g := w.heap.size) rfl
theorem ec_one_len (X : ByteArray) (O : Nat) : (ec [(X, O)]).length = 1 * 2 := rfl
/-- does entry i rise? -/
def upB (m : Nat) (x : ByteArray) (i : Nat) : Bool := decide (i = 0) || !(decide (rdeH m x i = rdeH m x (i - 1)) || lessS (rdeH m x i) (rdeH m x (i - 1)))
def ents (m : Nat) (x : ByteArray) (n : Nat) : List EN := (List.range n).map fun i => (rdeH m x i, rdeO m x i)
theorem ents_len (m : Nat) (x : ByteArray) (n : Nat) : (ents m x n).length = n := by simp [ents]
theorem ents_succ (m : Nat) (x : ByteArray) (n : Nat) : ents m x (n + 1) = ents m x n ++ [(rdeH m x n, rdeO m x n)] := by simp [ents, List.range_succ]
theorem ents_at (m : Nat) (x : ByteArray) (n i : Nat) (h : i < n) : (ents m x n)[i]'(by rw [ents_len]; exact h) = (rdeH m x i, rdeO m x i) := by simp [ents]
def allUp (m : Nat) (x : ByteArray) : Bool := (List.range (x.size / (m + 4))).all (upB m x)
theorem allUp_no {m : Nat} {x : ByteArray} {i : Nat} (hi : i < x.size / (m + 4)) (h : upB m x i = false) : allUp m x = false := by
  unfold allUp
  rw [List.all_eq_false]
  exact ⟨i, List.mem_range.2 hi, by simp [h]⟩
theorem allUp_yes {m : Nat} {x : ByteArray} (h : ∀ i, i < x.size / (m + 4) → upB m x i = true) : allUp m x = true := by
  unfold allUp
  rw [List.all_eq_true]
  exact fun i hi => h i (List.mem_range.1 hi)
/-- what readIndex says -/
def riE (m : Int) (x : ByteArray) : Int := if 1 ≤ m ∧ m ≤ 16 then if x.size % (m.toNat + 4) = 0 ∧ allUp m.toNat x = true then 0 else 38 else 30
def riL (m : Int) (x : ByteArray) : List EN := if riE m x = 0 then ents m.toNat x (x.size / (m.toNat + 4)) else []
theorem ri_width {m : Int} {x : ByteArray} (h : ¬ (1 ≤ m ∧ m ≤ 16)) : riE m x = 30 ∧ riL m x = [] := by
  have e : riE m x = 30 := by unfold riE; rw [if_neg h]
  exact ⟨e, by unfold riL; rw [e, if_neg (by omega)]⟩
theorem ri_no {m : Int} {x : ByteArray} (h : 1 ≤ m ∧ m ≤ 16) (hx : ¬ (x.size % (m.toNat + 4) = 0 ∧ allUp m.toNat x = true)) : riE m x = 38 ∧ riL m x = [] := by
  have e : riE m x = 38 := by unfold riE; rw [if_pos h, if_neg hx]
  exact ⟨e, by unfold riL; rw [e, if_neg (by omega)]⟩
theorem ri_yes {m : Int} {x : ByteArray} (h : 1 ≤ m ∧ m ≤ 16) (hx : x.size % (m.toNat + 4) = 0 ∧ allUp m.toNat x = true) : riE m x = 0 ∧ riL m x = ents m.toNat x (x.size / (m.toNat + 4)) := by
  have e : riE m x = 0 := by unfold riE; rw [if_pos h, if_pos hx]
  exact ⟨e, by unfold riL; rw [e, if_pos rfl]⟩
theorem rise_up (m : Nat) (x : ByteArray) (i : Nat) {Z : Int} (hZ : Z = if i = 0 then 1 else if rdeH m x i = rdeH m x (i - 1) then 0 else if lessS (rdeH m x i) (rdeH m x (i - 1)) then -1 else 1) : (upB m x i = true → 0 < Z) ∧ (upB m x i = false → Z ≤ 0) := by
  unfold upB
  rw [hZ]
  by_cases h0 : i = 0
  · simp [h0]
  · by_cases h1 : rdeH m x i = rdeH m x (i - 1)
    · simp [h0, h1]
    · by_cases h2 : lessS (rdeH m x i) (rdeH m x (i - 1)) = true
      · simp [h0, h1, h2]
      · simp only [Bool.not_eq_true] at h2
        simp [h0, h1, h2]
end Go.Proofs.Ytjibhdcnibgegaa
