import Derived.Test.YthihmgdefbahpaaPart3
import Derived.Test.YthihmgdefbahpaaPart2
namespace Go.Proofs.Ythihmgdefbahpaa
open Go.RowKit
def inB (d : ByteArray) (a : Int) : Prop := 0 ≤ a ∧ a ≤ (d.size : Int)
def rrE (d : ByteArray) (a : Int) : Int := if 0 ≤ a ∧ a ≤ (d.size : Int) then if errL (spL d a.toNat) = 0 then 0 else 39 else 1
def rrL (d : ByteArray) (a : Int) : List KV := if (0 ≤ a ∧ a ≤ (d.size : Int)) ∧ errL (spL d a.toNat) = 0 then spL d a.toNat else []
def rrN (d : ByteArray) (a : Int) : Int := if (0 ≤ a ∧ a ≤ (d.size : Int)) ∧ errL (spL d a.toNat) = 0 then (spN d a.toNat : Int) else 0
theorem rr_arg {d : ByteArray} {a : Int} (h : ¬ (0 ≤ a ∧ a ≤ (d.size : Int))) : rrE d a = 1 ∧ rrL d a = [] ∧ rrN d a = 0 := by
  unfold rrE rrL rrN; rw [if_neg h, if_neg (fun k => h k.1), if_neg (fun k => h k.1)]; exact ⟨rfl, rfl, rfl⟩
theorem rr_bad {d : ByteArray} {a : Int} (h : 0 ≤ a ∧ a ≤ (d.size : Int)) (he : ¬ errL (spL d a.toNat) = 0) : rrE d a = 39 ∧ rrL d a = [] ∧ rrN d a = 0 := by
  unfold rrE rrL rrN; rw [if_pos h, if_neg he, if_neg (fun k => he k.2), if_neg (fun k => he k.2)]; exact ⟨rfl, rfl, rfl⟩
theorem rr_good {d : ByteArray} {a : Int} (h : 0 ≤ a ∧ a ≤ (d.size : Int)) (he : errL (spL d a.toNat) = 0) : rrE d a = 0 ∧ rrL d a = spL d a.toNat ∧ rrN d a = (spN d a.toNat : Int) := by
  unfold rrE rrL rrN; rw [if_pos h, if_pos he, if_pos ⟨h, he⟩, if_pos ⟨h, he⟩]; exact ⟨rfl, rfl, rfl⟩
theorem own_pairs {w : World} {base : Nat} {v : Value} {ps : List KV} (h : w.ownsRow base 65 2 v ps.length (pc ps)) : ∃ ao g cap, v = .slice ao ps.length cap ∧ (0 < ps.length → ao = some ⟨g, 0, none⟩) ∧ (0 < ps.length → g < w.heap.size) ∧ LiesP g 0 w ps := by
  rcases h.2 with ⟨rfl, h0⟩ | ⟨g, cap, cur, rfl, hg, hblk, _⟩
  · rw [h0]
    exact ⟨none, 0, 0, rfl, fun k => by omega, fun k => by omega, fun i hi => by omega⟩
  · exact ⟨some ⟨g, 0, none⟩, g, cap, rfl, fun _ => rfl, fun _ => row_lt h, row_lies (qs := []) (by rw [List.append_nil]; exact h) (Nat.le_refl _)⟩
theorem spL_len (d : ByteArray) (p : Nat) : (spL d p).length < 65536 := by
  cases h : spellAt d p with
  | none => rw [(spL_none h).1]; simp
  | some x => obtain ⟨l, q⟩ := x; rw [(spL_some h).1]; exact (spell_rec h).2.2.1
set_option maxHeartbeats 2000000 in
set_option maxRecDepth 100000 in
/-- ReadRecord -/
theorem readRecord_any (d : ByteArray) (a : Int) (hd : d.size ≤ 140737488351232) (w : World) :
    Calls Try.prog 21 #[.string d, .int .i64 a] w fun e w' => ∃ v, e = .returned (.tuple #[v, .int .i64 (rrN d a), .int .i64 (rrE d a)]) ∧ w'.ownsRow w.heap.size 65 2 v (rrL d a).length (pc (rrL d a)) ∧ Below w.heap.size w w' := by
  by_cases hin : 0 ≤ a ∧ a ≤ (d.size : Int)
  · obtain ⟨p, rfl⟩ : ∃ p : Nat, a = (p : Int) := ⟨a.toNat, by omega⟩
    have R := hide (read_any d p hd (by omega) w)
    have hsl := spL_len d p
    by_cases he : errL (spL d p) = 0
    · obtain ⟨e1, e2, e3⟩ := rr_good hin (by rwa [Int.toNat_natCast])
      rw [e1, e2, e3, Int.toNat_natCast]
      clear e1 e2 e3
      have HE := hide he
      clear he
      generalize spN d p = NN at *
      generalize spL d p = L at *
      go_enter Try.func21, Try.ntmps21
      go_wp2_with fail
      refine Calls.mono R.out ?_
      rintro e w1 ⟨v, rfl, o1, hb1⟩
      obtain ⟨ao, g, cap, rfl, h1, h2, h3⟩ := own_pairs o1
      have W := weigh_any ao g 0 cap L w1 h1 h2 (by omega) h3
      rw [HE.out] at W
      have HW := hide W
      have O1 := hide o1
      have HB := hide hb1
      have s1 := hb1.size
      clear W o1 hb1 h1 h2 h3
      go_wp2_with fail
      refine Calls.mono HW.out ?_
      rintro e w2 ⟨rfl, hb2⟩
      have O2 := hide (own_below O1.out hb2)
      have B2 := hide (HB.out.trans (hb2.mono s1))
      clear hb2
      go_wp2_with fail
      go_ret3
      exact ⟨_, rfl, O2.out, B2.out⟩
    · obtain ⟨e1, e2, e3⟩ := rr_bad hin (by rwa [Int.toNat_natCast])
      rw [e1, e2, e3]
      clear e1 e2 e3
      have hne : (errL (spL d p) != 0) = true := by simpa using he
      clear he
      generalize spN d p = NN at *
      generalize spL d p = L at *
      go_enter Try.func21, Try.ntmps21
      go_wp2_with fail
      refine Calls.mono R.out ?_
      rintro e w1 ⟨v, rfl, o1, hb1⟩
      obtain ⟨ao, g, cap, rfl, h1, h2, h3⟩ := own_pairs o1
      have HW := hide (weigh_any ao g 0 cap L w1 h1 h2 (by omega) h3)
      have HB := hide hb1
      have s1 := hb1.size
      clear o1 hb1 h1 h2 h3
      generalize errL L = E at *
      generalize wSize L = WS at *
      go_wp2_with fail
      refine Calls.mono HW.out ?_
      rintro e w2 ⟨rfl, hb2⟩
      have B2 := hide (HB.out.trans (hb2.mono s1))
      clear hb2
      go_wp2_with fail
      go_ret3
      exact ⟨_, rfl, World.ownsRow_nil _ _ _ _, B2.out⟩
  · obtain ⟨e1, e2, e3⟩ := rr_arg hin
    rw [e1, e2, e3]
    clear e1 e2 e3
    by_cases hneg : a < 0
    · go_enter Try.func21, Try.ntmps21
      go_wp2_with fail
      go_ret3
      exact ⟨_, rfl, World.ownsRow_nil _ _ _ _, Below.refl _ _⟩
    · have hbig : (d.size : Int) < a := by omega
      clear hin
      go_enter Try.func21, Try.ntmps21
      go_wp2_with fail
      go_ret3
      exact ⟨_, rfl, World.ownsRow_nil _ _ _ _, Below.refl _ _⟩
end Go.Proofs.Ythihmgdefbahpaa
namespace Go.Proofs.Ythihmgdefbahpaa
open Go.RowKit
/-- where what is spelled ends; -1: too few bytes -/
def spZ (d : ByteArray) (p : Nat) : Int := match spellAt d p with | none => -1 | some (_, q) => (q : Int)
theorem spZ_some {d : ByteArray} {p : Nat} {l : List KV} {q : Nat} (h : spellAt d p = some (l, q)) : spZ d p = (q : Int) := by unfold spZ; rw [h]
theorem spZ_none {d : ByteArray} {p : Nat} (h : spellAt d p = none) : spZ d p = -1 := by unfold spZ; rw [h]
theorem cell_XY (w : World) (X Y : ByteArray) : ∀ j u, (pc [(X, Y)])[j]? = some u → (w.drew.alloc (.cells #[.string X, .string Y] 65)).cell? ((⟨w.heap.size, 0, none⟩ : Addr).add j) = some u := cell_pair w.drew (X, Y)
theorem len_XY (X Y : ByteArray) : (pc [(X, Y)]).length = 1 * 2 := rfl
set_option maxHeartbeats 3000000 in
set_option maxRecDepth 100000 in
set_option linter.unusedSimpArgs false in
/-- the document's spelled -/
theorem spelled_any (d : ByteArray) (p : Nat) (hd : d.size ≤ 140737488351232) (hp : p ≤ d.size) (w : World) :
    Calls Try.prog 76 #[.string d, .int .i64 (p : Int)] w fun e w' => ∃ v, e = .returned (.tuple #[v, .int .i64 (spZ d p)]) ∧ w'.ownsRow w.heap.size 65 2 v (spL d p).length (pc (spL d p)) ∧ Below w.heap.size w w' := by
  obtain ⟨i0, hi, hz0, hz1, hz2⟩ := info_parts infoP
  by_cases h2 : p + 2 ≤ d.size
  · have HC1 : Hid (∀ w', Calls Try.prog 79 #[.string d, .int .i64 (p : Int), .int .i64 2] w' fun e w'' => e = .returned (.int .i64 (kAt d p : Int)) ∧ w' = w'') := fun w' => sum_any d p 2 (by omega) (by omega) (by omega) w'
    have HSK : Hid (∀ q, q + 6 ≤ d.size → ∀ w', Calls Try.prog 79 #[.string d, .int .i64 (q : Int), .int .i64 2] w' fun e w'' => e = .returned (.int .i64 (kAt d q : Int)) ∧ w' = w'') := fun q hq w' => sum_any d q 2 (by omega) (by omega) (by omega) w'
    have HSV : Hid (∀ q, q + 6 ≤ d.size → ∀ w', Calls Try.prog 79 #[.string d, .int .i64 ((q : Int) + 2), .int .i64 4] w' fun e w'' => e = .returned (.int .i64 (vAt d q : Int)) ∧ w' = w'') := fun q hq w' => by
      have := sum_any d (q + 2) 4 (by omega) (by omega) (by omega) w'
      rwa [show ((q + 2 : Nat) : Int) = (q : Int) + 2 by omega] at this
    have hk := kAt_lt d p
    have hsp : spellAt d p = pairsAt d (p + 2) (kAt d p) := by unfold spellAt; rw [if_pos h2]
    have HSP := hide hsp
    clear hsp
    generalize hCN : kAt d p = CN at *
    have HCN := hide hCN
    clear hCN
    go_enter Try.func76, Try.ntmps76
    go_wp2_with fail
    refine Calls.mono (HC1.out _) ?_
    rintro e wx ⟨rfl, rfl⟩
    go_wp2_with fail
    go_loopw [6, 7, 8] (fun v at' i wr => ∃ (k : Nat) (l : List KV) (q : Nat), k ≤ CN ∧ i = .int .i64 ((CN : Int) - (k : Int)) ∧ at' = .int .i64 (q : Int) ∧ pairsAt d (p + 2) k = some (l, q) ∧ wr.ownsRow w.heap.size 65 2 v l.length (pc l) ∧ Below w.heap.size w wr)
      (fun _ _ i _ => (intOf i).toNat)
    case atStart => exact ⟨0, [], p + 2, by omega, by go_num, by go_num, rfl, World.ownsRow_nil _ _ _ _, Below.refl _ _⟩
    case round =>
      obtain ⟨k, l, q, hk2, rfl, rfl, hpa, hown, hnx⟩ := hrel
      have hsz := hnx.size
      obtain ⟨hq1, hq2, hq3, _⟩ := pairs_body h2 k l q hpa
      have HPA := hide hpa
      have HNX := hide hnx
      have HOWN := hide hown
      clear hpa hnx hown
      by_cases hlt : k < CN
      · have hki : (0 : Int) < (CN : Int) - (k : Int) := by omega
        by_cases h6 : q + 6 ≤ d.size
        · have S1 := hide (HSK.out q h6)
          have S2 := hide (HSV.out q h6)
          have hkq := kAt_lt d q
          have hvq := vAt_lt d q
          have hend : pairEnd d q = q + 6 + kAt d q + vAt d q := rfl
          have h61 : (6 : Int) ≤ (d.size : Int) - (q : Int) := by omega
          by_cases he : pairEnd d q ≤ d.size
          · have HST := hide (pairs_step HPA.out ⟨h6, he⟩)
            have hF : pairOf d q = (d.extract (q + 6) (q + 6 + kAt d q), d.extract (q + 6 + kAt d q) (q + 6 + kAt d q + vAt d q)) := rfl
            rw [hF, hend] at HST
            rw [hend] at he
            clear hend hF
            generalize kAt d q = K at *
            generalize vAt d q = V at *
            obtain ⟨hm1, hm2⟩ := small_room (k := l.length) (by omega)
            obtain ⟨X, hX⟩ : ∃ X, d.extract (q + 6) (q + 6 + K) = X := ⟨_, rfl⟩
            obtain ⟨Y, hY⟩ : ∃ Y, d.extract (q + 6 + K) (q + 6 + K + V) = Y := ⟨_, rfl⟩
            rw [hX, hY] at HST
            have HX := hide hX
            have HY := hide hY
            clear hX hY
            have CXY := hide (cell_XY wr X Y)
            have h62 : (K : Int) + (V : Int) ≤ (d.size : Int) - ((q : Int) + 6) := by omega
            go_wp2_with fail
            refine Calls.mono (S1.out _) ?_
            rintro e wx ⟨rfl, rfl⟩
            go_wp2_with fail
            refine Calls.mono (S2.out _) ?_
            rintro e wx ⟨rfl, rfl⟩
            go_wp2_with fail
            refine wp_region_held_drew (S := fun _ => True) (by kernel_rfl) trivial (fun hHeld => ?_)
            refine wpAnyH_take (i := 0) (v := (u6)) rfl (by kernel_rfl) (by kernel_rfl) (by kernel_rfl) (fun _ _ _ h => h) (Or.inl ⟨by rfl, ?_⟩) (by assumption) ?_
            · intro w' hSw
              (try dsimp only at hSw)
              go_simp <;> first | exact i64_in (by omega) (by omega) | exact u32_in (by omega) (by omega) | exact u32_add _ _ | (rw [Int.tmod_eq_emod_of_nonneg (by omega)]; omega) | (rw [Int.tdiv_eq_ediv_of_nonneg (by omega)]; omega) | omega
            (try simp only [Act.put, List.setIfInBounds_toArray, List.set_cons_zero, List.set_cons_succ])
            refine wpAnyH_take (i := 1) (v := (.string d)) rfl (by kernel_rfl) (by kernel_rfl) (by kernel_rfl) (fun _ _ _ h => h) (Or.inl ⟨by rfl, ?_⟩) (by assumption) ?_
            · intro w' hSw
              (try dsimp only at hSw)
              go_simp <;> first | exact i64_in (by omega) (by omega) | exact u32_in (by omega) (by omega) | exact u32_add _ _ | (rw [Int.tmod_eq_emod_of_nonneg (by omega)]; omega) | (rw [Int.tdiv_eq_ediv_of_nonneg (by omega)]; omega) | omega
            (try simp only [Act.put, List.setIfInBounds_toArray, List.set_cons_zero, List.set_cons_succ])
            refine wpAnyH_take (i := 2) (v := (.int .i64 ((q : Int) + 6))) rfl (by kernel_rfl) (by kernel_rfl) (by kernel_rfl) (fun _ _ _ h => h) (Or.inl ⟨by rfl, ?_⟩) (by assumption) ?_
            · intro w' hSw
              (try dsimp only at hSw)
              go_simp <;> first | exact i64_in (by omega) (by omega) | exact u32_in (by omega) (by omega) | exact u32_add _ _ | (rw [Int.tmod_eq_emod_of_nonneg (by omega)]; omega) | (rw [Int.tdiv_eq_ediv_of_nonneg (by omega)]; omega) | omega
            (try simp only [Act.put, List.setIfInBounds_toArray, List.set_cons_zero, List.set_cons_succ])
            refine wpAnyH_take (i := 3) (v := (.int .i64 ((q : Int) + 6))) rfl (by kernel_rfl) (by kernel_rfl) (by kernel_rfl) (fun _ _ _ h => h) (Or.inl ⟨by rfl, ?_⟩) (by assumption) ?_
            · intro w' hSw
              (try dsimp only at hSw)
              go_simp <;> first | exact i64_in (by omega) (by omega) | exact u32_in (by omega) (by omega) | exact u32_add _ _ | (rw [Int.tmod_eq_emod_of_nonneg (by omega)]; omega) | (rw [Int.tdiv_eq_ediv_of_nonneg (by omega)]; omega) | omega
            (try simp only [Act.put, List.setIfInBounds_toArray, List.set_cons_zero, List.set_cons_succ])
            refine wpAnyH_take (i := 4) (v := (.int .i64 (K : Int))) rfl (by kernel_rfl) (by kernel_rfl) (by kernel_rfl) (fun _ _ _ h => h) (Or.inl ⟨by rfl, ?_⟩) (by assumption) ?_
            · intro w' hSw
              (try dsimp only at hSw)
              go_simp <;> first | exact i64_in (by omega) (by omega) | exact u32_in (by omega) (by omega) | exact u32_add _ _ | (rw [Int.tmod_eq_emod_of_nonneg (by omega)]; omega) | (rw [Int.tdiv_eq_ediv_of_nonneg (by omega)]; omega) | omega
            (try simp only [Act.put, List.setIfInBounds_toArray, List.set_cons_zero, List.set_cons_succ])
            refine wpAnyH_take (i := 5) (v := (.int .i64 ((q : Int) + 6 + (K : Int)))) rfl (by kernel_rfl) (by kernel_rfl) (by kernel_rfl) (fun _ _ _ h => h) (Or.inl ⟨by rfl, ?_⟩) (by assumption) ?_
            · intro w' hSw
              (try dsimp only at hSw)
              go_simp <;> first | exact i64_in (by omega) (by omega) | exact u32_in (by omega) (by omega) | exact u32_add _ _ | (rw [Int.tmod_eq_emod_of_nonneg (by omega)]; omega) | (rw [Int.tdiv_eq_ediv_of_nonneg (by omega)]; omega) | omega
            (try simp only [Act.put, List.setIfInBounds_toArray, List.set_cons_zero, List.set_cons_succ])
            refine wpAnyH_take (i := 6) (v := (.string X)) rfl (by kernel_rfl) (by kernel_rfl) (by kernel_rfl) (fun _ _ _ h => h) (Or.inl ⟨by rfl, ?_⟩) (by assumption) ?_
            · intro w' hSw
              (try dsimp only at hSw)
              (go_simp; (repeat rw [if_pos (by first | omega | exact ⟨by omega, by omega⟩)]); (try rw [show ((q : Int) + 6).toNat = q + 6 by omega]); (try rw [show ((q : Int) + 6 + (K : Int)).toNat = q + 6 + K by omega]); (try rw [show ((q : Int) + 6 + (K : Int) + (V : Int)).toNat = q + 6 + K + V by omega]); first | rw [HX.out] | rw [HY.out])
            (try simp only [Act.put, List.setIfInBounds_toArray, List.set_cons_zero, List.set_cons_succ])
            refine wpAnyH_take (i := 7) (v := (.string d)) rfl (by kernel_rfl) (by kernel_rfl) (by kernel_rfl) (fun _ _ _ h => h) (Or.inl ⟨by rfl, ?_⟩) (by assumption) ?_
            · intro w' hSw
              (try dsimp only at hSw)
              go_simp <;> first | exact i64_in (by omega) (by omega) | exact u32_in (by omega) (by omega) | exact u32_add _ _ | (rw [Int.tmod_eq_emod_of_nonneg (by omega)]; omega) | (rw [Int.tdiv_eq_ediv_of_nonneg (by omega)]; omega) | omega
            (try simp only [Act.put, List.setIfInBounds_toArray, List.set_cons_zero, List.set_cons_succ])
            refine wpAnyH_take (i := 8) (v := (.int .i64 ((q : Int) + 6))) rfl (by kernel_rfl) (by kernel_rfl) (by kernel_rfl) (fun _ _ _ h => h) (Or.inl ⟨by rfl, ?_⟩) (by assumption) ?_
            · intro w' hSw
              (try dsimp only at hSw)
              go_simp <;> first | exact i64_in (by omega) (by omega) | exact u32_in (by omega) (by omega) | exact u32_add _ _ | (rw [Int.tmod_eq_emod_of_nonneg (by omega)]; omega) | (rw [Int.tdiv_eq_ediv_of_nonneg (by omega)]; omega) | omega
            (try simp only [Act.put, List.setIfInBounds_toArray, List.set_cons_zero, List.set_cons_succ])
            refine wpAnyH_take (i := 9) (v := (.int .i64 (K : Int))) rfl (by kernel_rfl) (by kernel_rfl) (by kernel_rfl) (fun _ _ _ h => h) (Or.inl ⟨by rfl, ?_⟩) (by assumption) ?_
            · intro w' hSw
              (try dsimp only at hSw)
              go_simp <;> first | exact i64_in (by omega) (by omega) | exact u32_in (by omega) (by omega) | exact u32_add _ _ | (rw [Int.tmod_eq_emod_of_nonneg (by omega)]; omega) | (rw [Int.tdiv_eq_ediv_of_nonneg (by omega)]; omega) | omega
            (try simp only [Act.put, List.setIfInBounds_toArray, List.set_cons_zero, List.set_cons_succ])
            refine wpAnyH_take (i := 10) (v := (.int .i64 ((q : Int) + 6 + (K : Int)))) rfl (by kernel_rfl) (by kernel_rfl) (by kernel_rfl) (fun _ _ _ h => h) (Or.inl ⟨by rfl, ?_⟩) (by assumption) ?_
            · intro w' hSw
              (try dsimp only at hSw)
              go_simp <;> first | exact i64_in (by omega) (by omega) | exact u32_in (by omega) (by omega) | exact u32_add _ _ | (rw [Int.tmod_eq_emod_of_nonneg (by omega)]; omega) | (rw [Int.tdiv_eq_ediv_of_nonneg (by omega)]; omega) | omega
            (try simp only [Act.put, List.setIfInBounds_toArray, List.set_cons_zero, List.set_cons_succ])
            refine wpAnyH_take (i := 11) (v := (.int .i64 ((q : Int) + 6))) rfl (by kernel_rfl) (by kernel_rfl) (by kernel_rfl) (fun _ _ _ h => h) (Or.inl ⟨by rfl, ?_⟩) (by assumption) ?_
            · intro w' hSw
              (try dsimp only at hSw)
              go_simp <;> first | exact i64_in (by omega) (by omega) | exact u32_in (by omega) (by omega) | exact u32_add _ _ | (rw [Int.tmod_eq_emod_of_nonneg (by omega)]; omega) | (rw [Int.tdiv_eq_ediv_of_nonneg (by omega)]; omega) | omega
            (try simp only [Act.put, List.setIfInBounds_toArray, List.set_cons_zero, List.set_cons_succ])
            refine wpAnyH_take (i := 12) (v := (.int .i64 (K : Int))) rfl (by kernel_rfl) (by kernel_rfl) (by kernel_rfl) (fun _ _ _ h => h) (Or.inl ⟨by rfl, ?_⟩) (by assumption) ?_
            · intro w' hSw
              (try dsimp only at hSw)
              go_simp <;> first | exact i64_in (by omega) (by omega) | exact u32_in (by omega) (by omega) | exact u32_add _ _ | (rw [Int.tmod_eq_emod_of_nonneg (by omega)]; omega) | (rw [Int.tdiv_eq_ediv_of_nonneg (by omega)]; omega) | omega
            (try simp only [Act.put, List.setIfInBounds_toArray, List.set_cons_zero, List.set_cons_succ])
            refine wpAnyH_take (i := 13) (v := (.int .i64 ((q : Int) + 6 + (K : Int)))) rfl (by kernel_rfl) (by kernel_rfl) (by kernel_rfl) (fun _ _ _ h => h) (Or.inl ⟨by rfl, ?_⟩) (by assumption) ?_
            · intro w' hSw
              (try dsimp only at hSw)
              go_simp <;> first | exact i64_in (by omega) (by omega) | exact u32_in (by omega) (by omega) | exact u32_add _ _ | (rw [Int.tmod_eq_emod_of_nonneg (by omega)]; omega) | (rw [Int.tdiv_eq_ediv_of_nonneg (by omega)]; omega) | omega
            (try simp only [Act.put, List.setIfInBounds_toArray, List.set_cons_zero, List.set_cons_succ])
            refine wpAnyH_take (i := 14) (v := (.int .i64 (V : Int))) rfl (by kernel_rfl) (by kernel_rfl) (by kernel_rfl) (fun _ _ _ h => h) (Or.inl ⟨by rfl, ?_⟩) (by assumption) ?_
            · intro w' hSw
              (try dsimp only at hSw)
              go_simp <;> first | exact i64_in (by omega) (by omega) | exact u32_in (by omega) (by omega) | exact u32_add _ _ | (rw [Int.tmod_eq_emod_of_nonneg (by omega)]; omega) | (rw [Int.tdiv_eq_ediv_of_nonneg (by omega)]; omega) | omega
            (try simp only [Act.put, List.setIfInBounds_toArray, List.set_cons_zero, List.set_cons_succ])
            refine wpAnyH_take (i := 15) (v := (.int .i64 ((q : Int) + 6 + (K : Int) + (V : Int)))) rfl (by kernel_rfl) (by kernel_rfl) (by kernel_rfl) (fun _ _ _ h => h) (Or.inl ⟨by rfl, ?_⟩) (by assumption) ?_
            · intro w' hSw
              (try dsimp only at hSw)
              go_simp <;> first | exact i64_in (by omega) (by omega) | exact u32_in (by omega) (by omega) | exact u32_add _ _ | (rw [Int.tmod_eq_emod_of_nonneg (by omega)]; omega) | (rw [Int.tdiv_eq_ediv_of_nonneg (by omega)]; omega) | omega
            (try simp only [Act.put, List.setIfInBounds_toArray, List.set_cons_zero, List.set_cons_succ])
            refine wpAnyH_take (i := 16) (v := (.string Y)) rfl (by kernel_rfl) (by kernel_rfl) (by kernel_rfl) (fun _ _ _ h => h) (Or.inl ⟨by rfl, ?_⟩) (by assumption) ?_
            · intro w' hSw
              (try dsimp only at hSw)
              (go_simp; (repeat rw [if_pos (by first | omega | exact ⟨by omega, by omega⟩)]); (try rw [show ((q : Int) + 6).toNat = q + 6 by omega]); (try rw [show ((q : Int) + 6 + (K : Int)).toNat = q + 6 + K by omega]); (try rw [show ((q : Int) + 6 + (K : Int) + (V : Int)).toNat = q + 6 + K + V by omega]); first | rw [HX.out] | rw [HY.out])
            (try simp only [Act.put, List.setIfInBounds_toArray, List.set_cons_zero, List.set_cons_succ])
            refine wpAnyH_take (i := 17) (v := (.agg #[.string X, .string Y])) rfl (by kernel_rfl) (by kernel_rfl) (by kernel_rfl) (fun _ _ _ h => h) (Or.inl ⟨by rfl, ?_⟩) (by assumption) ?_
            · intro w' hSw
              (try dsimp only at hSw)
              go_simp <;> first | exact i64_in (by omega) (by omega) | exact u32_in (by omega) (by omega) | exact u32_add _ _ | (rw [Int.tmod_eq_emod_of_nonneg (by omega)]; omega) | (rw [Int.tdiv_eq_ediv_of_nonneg (by omega)]; omega) | omega
            (try simp only [Act.put, List.setIfInBounds_toArray, List.set_cons_zero, List.set_cons_succ])
            refine wpAnyH_ready (rs := [18]) (by kernel_rfl) (by simp) ?_
            refine AllReadyH.cons rfl (fun K hK => ?_) AllReadyH.nil
            go_simp
            refine hK.out _ _ trivial (fun hHeld => ?_)
            clear hK
            (try simp only [Act.put, List.setIfInBounds_toArray, List.set_cons_zero, List.set_cons_succ])
            refine wpAnyH_ready (rs := [19]) (by kernel_rfl) (by simp) ?_
            refine AllReadyH.cons rfl (fun K hK => ?_) AllReadyH.nil
            refine step_append_lies _ (by rfl) _ _ _ (by rfl) w.heap.size 65 i0 (.agg #[.string ⟨#[]⟩, .string ⟨#[]⟩]) 2 32 Try.underlying47 hi hz0 hz1 hz2 rfl (by decide) _ _ _ (by rfl) (HOWN.out.drew.alloc (.cells #[.string X, .string Y] 65)) ⟨wr.heap.size, 0, none⟩ 1 1 (pc [(X, Y)]) (by rfl) (len_XY X Y) CXY.out (pc_one _) (by decide) hm1 hm2 (le_alloc hsz) (wr.heap.size + 1) (by simp) ?_
            intro g' c' w3 hown3 hgrow3 hat3 hlt3
            have OW := hide hown3
            have B3 := hide ((HNX.out.drew.alloc hsz _).grown hgrow3 (le_alloc hsz) (fun j hj => (HOWN.out.lt j hj).1))
            clear hown3 hgrow3 hat3
            refine hK.out _ _ trivial (fun hHeld => ?_)
            clear hK
            (try simp only [Act.put, List.setIfInBounds_toArray, List.set_cons_zero, List.set_cons_succ])
            refine wpAnyH_ready (rs := [20]) (by kernel_rfl) (by simp) ?_
            refine AllReadyH.cons rfl (fun K hK => ?_) AllReadyH.nil
            go_simp
            refine hK.out _ _ trivial (fun hHeld => ?_)
            clear hK
            (try simp only [Act.put, List.setIfInBounds_toArray, List.set_cons_zero, List.set_cons_succ])
            refine wpAnyH_done (by kernel_rfl) ?_ _
            go_wp2
            go_roundw
            case rel =>
              refine ⟨k + 1, _, _, by omega, by go_num, by go_num, HST.out, ?_, B3.out⟩
              have ow := OW.out
              rw [hq3] at ow
              rw [pc_append, List.length_append, hq3]
              exact ow
            case measure => simp [intOf]; omega
          · have hns : spellAt d p = none := by
              rw [HSP.out, show CN = k + 1 + (CN - (k + 1)) by omega]
              exact pairs_none (pairs_stop HPA.out (fun h => he h.2)) _
            have HS1 := hide (spL_none hns)
            have HS2 := hide (spZ_none hns)
            rw [hend] at he
            clear hend hns
            generalize kAt d q = K at *
            generalize vAt d q = V at *
            have h62 : (d.size : Int) - ((q : Int) + 6) < (K : Int) + (V : Int) := by omega
            go_wp2_with fail
            refine Calls.mono (S1.out _) ?_
            rintro e wx ⟨rfl, rfl⟩
            go_wp2_with fail
            refine Calls.mono (S2.out _) ?_
            rintro e wx ⟨rfl, rfl⟩
            go_wp2_with fail
            go_ret2
            exact ⟨_, by rw [HS2.out]; rfl, by rw [HS1.out.1]; exact World.ownsRow_nil _ _ _ _, HNX.out⟩
        · have hns : spellAt d p = none := by
            rw [HSP.out, show CN = k + 1 + (CN - (k + 1)) by omega]
            exact pairs_none (pairs_stop HPA.out (fun h => h6 h.1)) _
          have HS1 := hide (spL_none hns)
          have HS2 := hide (spZ_none hns)
          clear hns
          have h61 : (d.size : Int) - (q : Int) < 6 := by omega
          go_wp2_with fail
          go_ret2
          exact ⟨_, by rw [HS2.out]; rfl, by rw [HS1.out.1]; exact World.ownsRow_nil _ _ _ _, HNX.out⟩
      · obtain rfl : k = CN := by omega
        have HS1 := hide (spL_some (HSP.out.trans HPA.out))
        have HS2 := hide (spZ_some (HSP.out.trans HPA.out))
        go_wp2_with fail
        go_ret2
        exact ⟨_, by rw [HS2.out]; rfl, by rw [HS1.out.1]; exact HOWN.out, HNX.out⟩
  · have hs : spellAt d p = none := by unfold spellAt; rw [if_neg h2]
    rw [(spL_none hs).1, spZ_none hs]
    have h3 : (d.size : Int) - (p : Int) < 2 := by omega
    clear hs
    go_enter Try.func76, Try.ntmps76
    go_wp2_with fail
    go_ret2
    exact ⟨_, rfl, World.ownsRow_nil _ _ _ _, Below.refl _ _⟩
end Go.Proofs.Ythihmgdefbahpaa
namespace Go.Proofs.Ythihmgdefbahpaa
open Go.RowKit
set_option maxHeartbeats 2000000 in
set_option maxRecDepth 100000 in
/-- the document's ReadRecord -/
theorem rreadRecord_any (d : ByteArray) (a : Int) (hd : d.size ≤ 140737488351232) (w : World) :
    Calls Try.prog 61 #[.string d, .int .i64 a] w fun e w' => ∃ v, e = .returned (.tuple #[v, .int .i64 (rrN d a), .int .i64 (rrE d a)]) ∧ w'.ownsRow w.heap.size 65 2 v (rrL d a).length (pc (rrL d a)) ∧ Below w.heap.size w w' := by
  by_cases hin : 0 ≤ a ∧ a ≤ (d.size : Int)
  · obtain ⟨p, rfl⟩ : ∃ p : Nat, a = (p : Int) := ⟨a.toNat, by omega⟩
    have R := hide (spelled_any d p hd (by omega) w)
    have hsl := spL_len d p
    cases hsp : spellAt d p with
    | none =>
      have e0 : errL (spL d p) = 36 := by rw [(spL_none hsp).1]; rfl
      obtain ⟨e1, e2, e3⟩ := rr_bad hin (by rw [Int.toNat_natCast, e0]; omega)
      rw [e1, e2, e3]
      rw [spZ_none hsp] at R
      clear e1 e2 e3 e0 hsp
      generalize spL d p = L at *
      go_enter Try.func61, Try.ntmps61
      go_wp2_with fail
      refine Calls.mono R.out ?_
      rintro e w1 ⟨v, rfl, o1, hb1⟩
      have HB := hide hb1
      clear o1 hb1
      go_wp2_with fail
      go_ret3
      exact ⟨_, rfl, World.ownsRow_nil _ _ _ _, HB.out⟩
    | some x =>
      obtain ⟨l, q⟩ := x
      have ht := spell_text hsp
      obtain ⟨hq1, hq2, _, _⟩ := spell_rec hsp
      obtain ⟨el, en⟩ := spL_some hsp
      rw [spZ_some hsp, el] at R
      rw [el] at hsl
      by_cases he : errL l = 0
      · obtain ⟨e1, e2, e3⟩ := rr_good hin (by rwa [Int.toNat_natCast, el])
        rw [e1, e2, e3, Int.toNat_natCast, el, en]
        have hS : recS l = d.extract p q := by rw [recS_ok he, ht]
        clear e1 e2 e3 hsp ht el en
        have HE := hide he
        have HS := hide hS
        clear he hS
        have hse : ((d.extract p q).toList == (d.extract p q).toList) = true := by simp
        go_enter Try.func61, Try.ntmps61
        go_wp2_with fail
        refine Calls.mono R.out ?_
        rintro e w1 ⟨v, rfl, o1, hb1⟩
        obtain ⟨ao, g, cap, rfl, h1, h2, h3⟩ := own_pairs o1
        have W := rrecord_any ao g 0 cap l w1 h1 h2 (by omega) h3
        rw [HE.out, HS.out] at W
        have HW := hide W
        have O1 := hide o1
        have HB := hide hb1
        have s1 := hb1.size
        clear W o1 hb1 h1 h2 h3
        go_wp2_with fail
        refine Calls.mono HW.out ?_
        rintro e w2 ⟨rfl, hb2⟩
        have O2 := hide (own_below O1.out hb2)
        have B2 := hide (HB.out.trans (hb2.mono s1))
        clear hb2
        go_wp2_with fail
        go_ret3
        exact ⟨_, rfl, O2.out, B2.out⟩
      · obtain ⟨e1, e2, e3⟩ := rr_bad hin (by rwa [Int.toNat_natCast, el])
        rw [e1, e2, e3]
        have hS := recS_bad he
        have hne : (errL l != 0) = true := by simpa using he
        clear e1 e2 e3 hsp ht el en
        have HS := hide hS
        clear he hS
        go_enter Try.func61, Try.ntmps61
        go_wp2_with fail
        refine Calls.mono R.out ?_
        rintro e w1 ⟨v, rfl, o1, hb1⟩
        obtain ⟨ao, g, cap, rfl, h1, h2, h3⟩ := own_pairs o1
        have W := rrecord_any ao g 0 cap l w1 h1 h2 (by omega) h3
        rw [HS.out] at W
        have HW := hide W
        have HB := hide hb1
        have s1 := hb1.size
        clear W o1 hb1 h1 h2 h3
        generalize errL l = E at *
        go_wp2_with fail
        refine Calls.mono HW.out ?_
        rintro e w2 ⟨rfl, hb2⟩
        have B2 := hide (HB.out.trans (hb2.mono s1))
        clear hb2
        go_wp2_with fail
        go_ret3
        exact ⟨_, rfl, World.ownsRow_nil _ _ _ _, B2.out⟩
  · obtain ⟨e1, e2, e3⟩ := rr_arg hin
    rw [e1, e2, e3]
    clear e1 e2 e3
    by_cases hneg : a < 0
    · go_enter Try.func61, Try.ntmps61
      go_wp2_with fail
      go_ret3
      exact ⟨_, rfl, World.ownsRow_nil _ _ _ _, Below.refl _ _⟩
    · have hbig : (d.size : Int) < a := by omega
      clear hin
      go_enter Try.func61, Try.ntmps61
      go_wp2_with fail
      go_ret3
      exact ⟨_, rfl, World.ownsRow_nil _ _ _ _, Below.refl _ _⟩
end Go.Proofs.Ythihmgdefbahpaa
namespace Go.Proofs.Ythihmgdefbahpaa
open Go.RowKit
def entS (w : Int) (h : ByteArray) (o : Int) : ByteArray := if (1 ≤ w ∧ w ≤ 16) ∧ (h.size : Int) = w ∧ (0 ≤ o ∧ o < 4294967296) then h ++ strOf (dig 4 o.toNat) else ⟨#[]⟩
def entE (w : Int) (h : ByteArray) (o : Int) : Int := if 1 ≤ w ∧ w ≤ 16 then if (h.size : Int) = w then if 0 ≤ o ∧ o < 4294967296 then 0 else 31 else 34 else 30
def entR (w : Int) (h : ByteArray) (o : Int) : Ending := .returned (.tuple #[.string (entS w h o), .int .i64 (entE w h o)])
theorem ent_width {w : Int} {h : ByteArray} {o : Int} (hw : ¬ (1 ≤ w ∧ w ≤ 16)) : Ending.returned (.tuple #[.string ⟨#[]⟩, .int .i64 30]) = entR w h o := by
  unfold entR entS entE; rw [if_neg (fun k => hw k.1), if_neg hw]
theorem ent_hash {w : Int} {h : ByteArray} {o : Int} (hw : 1 ≤ w ∧ w ≤ 16) (hh : ¬ (h.size : Int) = w) : Ending.returned (.tuple #[.string ⟨#[]⟩, .int .i64 34]) = entR w h o := by
  unfold entR entS entE; rw [if_neg (fun k => hh k.2.1), if_pos hw, if_neg hh]
theorem ent_num {w : Int} {h : ByteArray} {o : Int} (hw : 1 ≤ w ∧ w ≤ 16) (hh : (h.size : Int) = w) (ho : ¬ (0 ≤ o ∧ o < 4294967296)) : Ending.returned (.tuple #[.string ⟨#[]⟩, .int .i64 31]) = entR w h o := by
  unfold entR entS entE; rw [if_neg (fun k => ho k.2.2), if_pos hw, if_pos hh, if_neg ho]
theorem ent_good {w : Int} {h : ByteArray} {o : Int} (hw : 1 ≤ w ∧ w ≤ 16) (hh : (h.size : Int) = w) (ho : 0 ≤ o ∧ o < 4294967296) : Ending.returned (.tuple #[.string (h ++ strOf (dig 4 o.toNat)), .int .i64 0]) = entR w h o := by
  unfold entR entS entE; rw [if_pos ⟨hw, hh, ho⟩, if_pos hw, if_pos hh, if_pos ho]
theorem num4_good {o : Int} (ho : 0 ≤ o ∧ o < 4294967296) : numS o 4 = strOf (dig 4 o.toNat) ∧ numE o 4 = 0 := by
  unfold numS numE
  constructor
  · rw [if_pos ⟨by omega, by omega, ho.1, by simpa using ho.2⟩]; rfl
  · rw [if_pos (by omega), if_pos ⟨ho.1, by simpa using ho.2⟩]
theorem num4_bad {o : Int} (ho : ¬ (0 ≤ o ∧ o < 4294967296)) : numS o 4 = ⟨#[]⟩ ∧ numE o 4 = 31 := by
  unfold numS numE
  constructor
  · rw [if_neg (fun k => ho ⟨k.2.2.1, by simpa using k.2.2.2⟩)]
  · rw [if_pos (by omega), if_neg (fun k => ho ⟨k.1, by simpa using k.2⟩)]
set_option maxRecDepth 100000 in
theorem isHashWidth_any (n : Int) (w : World) : Calls Try.prog 62 #[.int .i64 n] w fun e w' => e = .returned (.bool (decide (1 ≤ n ∧ n ≤ 16))) ∧ w = w' := by
  go_enter Try.func62, Try.ntmps62
  go_wp2
  all_goals go_ret
  all_goals refine ⟨ret_bool ?_, rfl⟩
  all_goals (symm; simp; omega)
end Go.Proofs.Ythihmgdefbahpaa
namespace Go.Proofs.Ythihmgdefbahpaa
open Go.RowKit
/-- what both ReadEntries answer -/
def rdeOk (m : Int) (x : ByteArray) (i : Int) : Prop := (1 ≤ m ∧ m ≤ 16) ∧ x.size % (m.toNat + 4) = 0 ∧ 0 ≤ i ∧ i.toNat < x.size / (m.toNat + 4)
instance (m : Int) (x : ByteArray) (i : Int) : Decidable (rdeOk m x i) := by unfold rdeOk; exact inferInstance
def rdeH (m : Nat) (x : ByteArray) (i : Nat) : ByteArray := x.extract (i * (m + 4)) (i * (m + 4) + m)
def rdeO (m : Nat) (x : ByteArray) (i : Nat) : Nat := val ((x.data.toList.drop (i * (m + 4) + m)).take 4)
def rdeS (m : Int) (x : ByteArray) (i : Int) : ByteArray := if rdeOk m x i then rdeH m.toNat x i.toNat else ⟨#[]⟩
def rdeV (m : Int) (x : ByteArray) (i : Int) : Int := if rdeOk m x i then (rdeO m.toNat x i.toNat : Int) else 0
def rdeE (m : Int) (x : ByteArray) (i : Int) : Int := if 1 ≤ m ∧ m ≤ 16 then if x.size % (m.toNat + 4) = 0 then if 0 ≤ i ∧ i.toNat < x.size / (m.toNat + 4) then 0 else 1 else 38 else 30
def rdeR (m : Int) (x : ByteArray) (i : Int) : Ending := .returned (.tuple #[.string (rdeS m x i), .int .i64 (rdeV m x i), .int .i64 (rdeE m x i)])
theorem rde_width {m : Int} {x : ByteArray} {i : Int} (h : ¬ (1 ≤ m ∧ m ≤ 16)) : Ending.returned (.tuple #[.string ⟨#[]⟩, .int .i64 0, .int .i64 30]) = rdeR m x i := by
  unfold rdeR rdeS rdeV rdeE; rw [if_neg (fun k => h k.1), if_neg (fun k => h k.1), if_neg h]
theorem rde_index {m : Int} {x : ByteArray} {i : Int} (h : 1 ≤ m ∧ m ≤ 16) (hx : ¬ x.size % (m.toNat + 4) = 0) : Ending.returned (.tuple #[.string ⟨#[]⟩, .int .i64 0, .int .i64 38]) = rdeR m x i := by
  unfold rdeR rdeS rdeV rdeE; rw [if_neg (fun k => hx k.2.1), if_neg (fun k => hx k.2.1), if_pos h, if_neg hx]
theorem rde_arg {m : Int} {x : ByteArray} {i : Int} (h : 1 ≤ m ∧ m ≤ 16) (hx : x.size % (m.toNat + 4) = 0) (hi : ¬ (0 ≤ i ∧ i.toNat < x.size / (m.toNat + 4))) : Ending.returned (.tuple #[.string ⟨#[]⟩, .int .i64 0, .int .i64 1]) = rdeR m x i := by
  unfold rdeR rdeS rdeV rdeE; rw [if_neg (fun k => hi k.2.2), if_neg (fun k => hi k.2.2), if_pos h, if_pos hx, if_neg hi]
theorem rde_good {m : Int} {x : ByteArray} {i : Int} (h : 1 ≤ m ∧ m ≤ 16) (hx : x.size % (m.toNat + 4) = 0) (hi : 0 ≤ i ∧ i.toNat < x.size / (m.toNat + 4)) : Ending.returned (.tuple #[.string (rdeH m.toNat x i.toNat), .int .i64 (rdeO m.toNat x i.toNat : Int), .int .i64 0]) = rdeR m x i := by
  unfold rdeR rdeS rdeV rdeE; rw [if_pos ⟨h, hx, hi⟩, if_pos ⟨h, hx, hi⟩, if_pos h, if_pos hx, if_pos hi]
theorem ext_ext (x : ByteArray) (p q m : Nat) (h : p + m ≤ q) : (x.extract p q).extract 0 m = x.extract p (p + m) := by
  apply ByteArray.ext
  rw [ByteArray.data_extract, ByteArray.data_extract, ByteArray.data_extract, Array.extract_extract]
  simp [Nat.min_eq_left h]
theorem ext_tail (x : ByteArray) (p m : Nat) : ((x.extract p (p + m + 4)).extract m (m + 4)).data.toList = (x.data.toList.drop (p + m)).take 4 := by
  rw [slice_str, slice_str, show m + 4 - m = 4 by omega, show p + m + 4 - p = m + 4 by omega, List.drop_take, List.drop_drop, List.take_take]
  congr 1
  omega
theorem in_index {x : ByteArray} {m i : Nat} (hi : i < x.size / (m + 4)) : i * (m + 4) + m + 4 ≤ x.size := by
  have h1 := Nat.div_mul_le_self x.size (m + 4)
  have h2 : (i + 1) * (m + 4) ≤ x.size / (m + 4) * (m + 4) := Nat.mul_le_mul_right _ hi
  rw [Nat.succ_mul] at h2
  omega
set_option maxHeartbeats 2000000 in
set_option maxRecDepth 100000 in
set_option linter.unusedSimpArgs false in
theorem entryAt_any (m i : Nat) (x : ByteArray) (hm1 : 1 ≤ m) (hm : m ≤ 16) (hx : x.size ≤ 140737488351232) (hi : i < x.size / (m + 4)) (w : World) :
    Calls Try.prog 51 #[.int .i64 (m : Int), .string x, .int .i64 (i : Int)] w fun e w' => e = .returned (.agg #[.string (rdeH m x i), .int .i64 (rdeO m x i : Int)]) ∧ Below w.heap.size w w' := by
  have hin := in_index hi
  have hi2 : i ≤ 140737488351232 := Nat.le_trans (Nat.le_of_lt hi) (Nat.le_trans (Nat.div_le_self _ _) hx)
  obtain ⟨p, hp⟩ : ∃ p, p = i * (m + 4) := ⟨_, rfl⟩
  have e1 : (i : Int) * ((m : Int) + 4) = (p : Int) := by rw [hp]; push_cast; rfl
  have e2 : ((i : Int) + 1) * ((m : Int) + 4) = (p : Int) + m + 4 := by rw [Int.add_mul, e1]; omega
  rw [← hp] at hin
  have hC := fun w' => take32_any ((x.extract p (p + m + 4)).extract m (m + 4)) (by simp; omega) w'
  rw [ext_tail x p m] at hC
  have hO : val ((x.data.toList.drop (p + m)).take 4) < 4294967296 := Nat.lt_of_lt_of_le (val_lt _) (Nat.pow_le_pow_right (show 256 > 0 by omega) (show ((x.data.toList.drop (p + m)).take 4).length ≤ 4 by rw [List.length_take]; omega))
  have hH : rdeH m x i = (x.extract p (p + m + 4)).extract 0 m := by rw [ext_ext _ _ _ _ (by omega), hp]; rfl
  have hV : rdeO m x i = val ((x.data.toList.drop (p + m)).take 4) := by rw [hp]; rfl
  rw [hH, hV]
  have hsz : (x.extract p (p + m + 4)).size = m + 4 := by simp; omega
  have HC := hide hC
  clear hC hH hV hp
  generalize val ((x.data.toList.drop (p + m)).take 4) = V at *
  go_enter Try.func51, Try.ntmps51
  go_wp2_with fail
  refine wp_region_held_drew (S := fun _ => True) (by kernel_rfl) trivial (fun hHeld => ?_)
  refine wpAnyH_take (i := 0) (v := (.string (x.extract p (p + m + 4)))) rfl (by kernel_rfl) (by kernel_rfl) (by kernel_rfl) (fun _ _ _ h => h) (Or.inl ⟨by rfl, ?_⟩) (by assumption) ?_
  · intro w' hSw
    (try dsimp only at hSw)
    go_simp <;> first | exact i64_in (by omega) (by omega) | exact u32_in (by omega) (by omega) | exact u32_add _ _ | (rw [Int.tmod_eq_emod_of_nonneg (by omega)]; omega) | (rw [Int.tdiv_eq_ediv_of_nonneg (by omega)]; omega) | omega
  (try simp only [Act.put, List.setIfInBounds_toArray, List.set_cons_zero, List.set_cons_succ])
  refine wpAnyH_take (i := 1) (v := (.int .i64 (m : Int))) rfl (by kernel_rfl) (by kernel_rfl) (by kernel_rfl) (fun _ _ _ h => h) (Or.inl ⟨by rfl, ?_⟩) (by assumption) ?_
  · intro w' hSw
    (try dsimp only at hSw)
    go_simp <;> first | exact i64_in (by omega) (by omega) | exact u32_in (by omega) (by omega) | exact u32_add _ _ | (rw [Int.tmod_eq_emod_of_nonneg (by omega)]; omega) | (rw [Int.tdiv_eq_ediv_of_nonneg (by omega)]; omega) | omega
  (try simp only [Act.put, List.setIfInBounds_toArray, List.set_cons_zero, List.set_cons_succ])
  refine wpAnyH_take (i := 2) (v := (.string ((x.extract p (p + m + 4)).extract 0 m))) rfl (by kernel_rfl) (by kernel_rfl) (by kernel_rfl) (fun _ _ _ h => h) (Or.inl ⟨by rfl, ?_⟩) (by assumption) ?_
  · intro w' hSw
    (try dsimp only at hSw)
    go_simp <;> first | exact i64_in (by omega) (by omega) | exact u32_in (by omega) (by omega) | exact u32_add _ _ | (rw [Int.tmod_eq_emod_of_nonneg (by omega)]; omega) | (rw [Int.tdiv_eq_ediv_of_nonneg (by omega)]; omega) | omega
  (try simp only [Act.put, List.setIfInBounds_toArray, List.set_cons_zero, List.set_cons_succ])
  refine wpAnyH_take (i := 3) (v := (.string (x.extract p (p + m + 4)))) rfl (by kernel_rfl) (by kernel_rfl) (by kernel_rfl) (fun _ _ _ h => h) (Or.inl ⟨by rfl, ?_⟩) (by assumption) ?_
  · intro w' hSw
    (try dsimp only at hSw)
    go_simp <;> first | exact i64_in (by omega) (by omega) | exact u32_in (by omega) (by omega) | exact u32_add _ _ | (rw [Int.tmod_eq_emod_of_nonneg (by omega)]; omega) | (rw [Int.tdiv_eq_ediv_of_nonneg (by omega)]; omega) | omega
  (try simp only [Act.put, List.setIfInBounds_toArray, List.set_cons_zero, List.set_cons_succ])
  refine wpAnyH_take (i := 4) (v := (.int .i64 (m : Int))) rfl (by kernel_rfl) (by kernel_rfl) (by kernel_rfl) (fun _ _ _ h => h) (Or.inl ⟨by rfl, ?_⟩) (by assumption) ?_
  · intro w' hSw
    (try dsimp only at hSw)
    go_simp <;> first | exact i64_in (by omega) (by omega) | exact u32_in (by omega) (by omega) | exact u32_add _ _ | (rw [Int.tmod_eq_emod_of_nonneg (by omega)]; omega) | (rw [Int.tdiv_eq_ediv_of_nonneg (by omega)]; omega) | omega
  (try simp only [Act.put, List.setIfInBounds_toArray, List.set_cons_zero, List.set_cons_succ])
  refine wpAnyH_take (i := 5) (v := (.string ((x.extract p (p + m + 4)).extract m (m + 4)))) rfl (by kernel_rfl) (by kernel_rfl) (by kernel_rfl) (fun _ _ _ h => h) (Or.inl ⟨by rfl, ?_⟩) (by assumption) ?_
  · intro w' hSw
    (try dsimp only at hSw)
    go_simp <;> first | exact i64_in (by omega) (by omega) | exact u32_in (by omega) (by omega) | exact u32_add _ _ | (rw [Int.tmod_eq_emod_of_nonneg (by omega)]; omega) | (rw [Int.tdiv_eq_ediv_of_nonneg (by omega)]; omega) | omega
  (try simp only [Act.put, List.setIfInBounds_toArray, List.set_cons_zero, List.set_cons_succ])
  refine wpAnyH_ready (rs := [6]) (by kernel_rfl) (by simp) ?_
  refine AllReadyH.cons rfl (fun K hK => ?_) AllReadyH.nil
  go_simp
  refine Calls.mono (HC.out _) ?_
  rintro e w1 ⟨rfl, rfl⟩
  refine hK.out _ _ trivial (fun hHeld => ?_)
  clear hK K
  (try simp only [Act.put, List.setIfInBounds_toArray, List.set_cons_zero, List.set_cons_succ])
  refine wpAnyH_take (i := 7) (v := (.int .i64 (V : Int))) rfl (by kernel_rfl) (by kernel_rfl) (by kernel_rfl) (fun _ _ _ h => h) (Or.inl ⟨by rfl, ?_⟩) (by assumption) ?_
  · intro w' hSw
    (try dsimp only at hSw)
    (go_simp; exact i64_in (by omega) (by omega))
  (try simp only [Act.put, List.setIfInBounds_toArray, List.set_cons_zero, List.set_cons_succ])
  refine wpAnyH_take (i := 8) (v := (.agg #[.string ((x.extract p (p + m + 4)).extract 0 m), .int .i64 (V : Int)])) rfl (by kernel_rfl) (by kernel_rfl) (by kernel_rfl) (fun _ _ _ h => h) (Or.inl ⟨by rfl, ?_⟩) (by assumption) ?_
  · intro w' hSw
    (try dsimp only at hSw)
    go_simp <;> first | exact i64_in (by omega) (by omega) | exact u32_in (by omega) (by omega) | exact u32_add _ _ | (rw [Int.tmod_eq_emod_of_nonneg (by omega)]; omega) | (rw [Int.tdiv_eq_ediv_of_nonneg (by omega)]; omega) | omega
  (try simp only [Act.put, List.setIfInBounds_toArray, List.set_cons_zero, List.set_cons_succ])
  refine wpAnyH_ready (rs := [9]) (by kernel_rfl) (by simp) ?_
  refine AllReadyH.cons rfl (fun K hK => ?_) AllReadyH.nil
  go_simp
  refine hK.out _ _ trivial (fun hHeld => ?_)
  clear hK K
  (try simp only [Act.put, List.setIfInBounds_toArray, List.set_cons_zero, List.set_cons_succ])
  refine wpAnyH_done (by kernel_rfl) ?_ _
  go_wp2
  refine bodyPost_ret (v := .agg #[.string ((x.extract p (p + m + 4)).extract 0 m), .int .i64 (V : Int)]) ?_ rfl ⟨rfl, ?_⟩
  · exact results_cell_row rfl _ _ w.heap.size 104 _ (0, 0) _ rfl (heap_alloc_new w _) Try.underlying104 rfl (by kernel_rfl)
  · exact ((Below.refl _ w).alloc (Nat.le_refl _) _).drew
theorem mod_ne {a b : Nat} (h : ¬ a % b = 0) : ((a : Int) % (b : Int) != 0) = true := by
  have : ¬ ((a : Int) % (b : Int) = 0) := by norm_cast
  simpa using this
theorem mod_eq {a b : Nat} (h : a % b = 0) : ((a : Int) % (b : Int) != 0) = false := by
  have : ((a : Int) % (b : Int) = 0) := by norm_cast
  simpa using this
set_option maxHeartbeats 2000000 in
set_option maxRecDepth 100000 in
theorem countEntries_any (m : Int) (x : ByteArray) (hx : x.size ≤ 140737488351232) (w : World) :
    Calls Try.prog 50 #[.int .i64 m, .string x] w fun e w' =>
      e = .returned (.tuple #[.int .i64 (if (1 ≤ m ∧ m ≤ 16) ∧ x.size % (m.toNat + 4) = 0 then ((x.size / (m.toNat + 4) : Nat) : Int) else 0), .int .i64 (if 1 ≤ m ∧ m ≤ 16 then if x.size % (m.toNat + 4) = 0 then 0 else 38 else 30)]) ∧ w = w' := by
  by_cases hm : 1 ≤ m ∧ m ≤ 16
  · have hd : decide (1 ≤ m ∧ m ≤ 16) = true := decide_eq_true hm
    obtain ⟨n, rfl⟩ : ∃ n : Nat, m = (n : Int) := ⟨m.toNat, by omega⟩
    rw [Int.toNat_natCast]
    by_cases hq : x.size % (n + 4) = 0
    · rw [if_pos ⟨hm, hq⟩, if_pos hm, if_pos hq]
      have h1 := mod_eq hq
      rw [show ((n + 4 : Nat) : Int) = (n : Int) + 4 by omega] at h1
      have h2 : (x.size : Int) / ((n : Int) + 4) = ((x.size / (n + 4) : Nat) : Int) := by push_cast; rfl
      have h3 : x.size / (n + 4) ≤ x.size := Nat.div_le_self _ _
      generalize x.size / (n + 4) = Z at *
      clear hq
      go_enter Try.func50, Try.ntmps50
      go_wp2_with fail
      refine Calls.mono (isHashWidth_any _ _) ?_
      rintro e w' ⟨rfl, rfl⟩
      go_wp2_with fail
      go_ret2
      exact ⟨rfl, rfl⟩
    · rw [if_neg (fun k => hq k.2), if_pos hm, if_neg hq]
      have h1 := mod_ne hq
      rw [show ((n + 4 : Nat) : Int) = (n : Int) + 4 by omega] at h1
      clear hq
      go_enter Try.func50, Try.ntmps50
      go_wp2_with fail
      refine Calls.mono (isHashWidth_any _ _) ?_
      rintro e w' ⟨rfl, rfl⟩
      go_wp2_with fail
      go_ret2
      exact ⟨rfl, rfl⟩
  · have hd : decide (1 ≤ m ∧ m ≤ 16) = false := decide_eq_false hm
    rw [if_neg (fun k => hm k.1), if_neg hm]
    go_enter Try.func50, Try.ntmps50
    go_wp2_with fail
    refine Calls.mono (isHashWidth_any _ _) ?_
    rintro e w' ⟨rfl, rfl⟩
    go_wp2_with fail
    go_ret2
    exact ⟨rfl, rfl⟩
set_option maxHeartbeats 2000000 in
set_option maxRecDepth 100000 in
theorem readEntry_any (m : Int) (x : ByteArray) (i : Int) (hx : x.size ≤ 140737488351232) (w : World) :
    Calls Try.prog 20 #[.int .i64 m, .string x, .int .i64 i] w fun e w' => e = rdeR m x i ∧ Below w.heap.size w w' := by
  have C := countEntries_any m x hx w
  by_cases hm : 1 ≤ m ∧ m ≤ 16
  · by_cases hq : x.size % (m.toNat + 4) = 0
    · rw [if_pos ⟨hm, hq⟩, if_pos hm, if_pos hq] at C
      by_cases hi : 0 ≤ i ∧ i.toNat < x.size / (m.toNat + 4)
      · have HF := hide (rde_good hm hq hi)
        have A := entryAt_any m.toNat i.toNat x (by omega) (by omega) hx hi.2 w
        rw [Int.toNat_of_nonneg (by omega), Int.toNat_of_nonneg hi.1] at A
        have HC := hide C
        have HA := hide A
        clear C A hq
        have h3 : x.size / (m.toNat + 4) ≤ x.size := Nat.div_le_self _ _
        generalize x.size / (m.toNat + 4) = Z at *
        generalize rdeH m.toNat x i.toNat = HH at *
        generalize rdeO m.toNat x i.toNat = OO at *
        have hi2 : i < (Z : Int) := by omega
        go_enter Try.func20, Try.ntmps20
        go_wp2_with fail
        refine Calls.mono HC.out ?_
        rintro e w' ⟨rfl, rfl⟩
        go_wp2_with fail
        refine Calls.mono HA.out ?_
        rintro e w1 ⟨rfl, hb1⟩
        have hb2 := hide ((hb1.alloc hb1.size (.cells #[.string HH, .int .i64 (OO : Int)] 104)).drew)
        go_wp2_with fail
        have g0 : (w1.alloc (.cells #[.string HH, .int .i64 (OO : Int)] 104)).cell? ⟨w1.heap.size, 0, none⟩ = some (.string HH) := by simp
        have g1 : (w1.alloc (.cells #[.string HH, .int .i64 (OO : Int)] 104)).cell? ⟨w1.heap.size, 1, none⟩ = some (.int .i64 (OO : Int)) := by simp
        generalize (w1.alloc (.cells #[.string HH, .int .i64 (OO : Int)] 104)) = w2 at *
        go_region_held3 (fun w' => w'.cell? ⟨w1.heap.size, 0, none⟩ = some (.string HH) ∧ w'.cell? ⟨w1.heap.size, 1, none⟩ = some (.int .i64 (OO : Int))) (go_keep) (fail)
        go_wp2
        go_ret3
        exact ⟨HF.out, hb2.out⟩
      · have HF := hide (rde_arg hm hq hi)
        have HC := hide C
        clear C hq
        have h3 : x.size / (m.toNat + 4) ≤ x.size := Nat.div_le_self _ _
        generalize x.size / (m.toNat + 4) = Z at *
        by_cases hi2 : i < 0
        · go_enter Try.func20, Try.ntmps20
          go_wp2_with fail
          refine Calls.mono HC.out ?_
          rintro e w' ⟨rfl, rfl⟩
          go_wp2_with fail
          all_goals (go_ret3; exact ⟨HF.out, Below.refl _ _⟩)
        · have hi3 : (Z : Int) ≤ i := by omega
          clear hi
          go_enter Try.func20, Try.ntmps20
          go_wp2_with fail
          refine Calls.mono HC.out ?_
          rintro e w' ⟨rfl, rfl⟩
          go_wp2_with fail
          all_goals (go_ret3; exact ⟨HF.out, Below.refl _ _⟩)
    · rw [if_neg (fun k => hq k.2), if_pos hm, if_neg hq] at C
      have HF := hide (rde_index (i := i) hm hq)
      have HC := hide C
      clear C hq
      go_enter Try.func20, Try.ntmps20
      go_wp2_with fail
      refine Calls.mono HC.out ?_
      rintro e w' ⟨rfl, rfl⟩
      go_wp2_with fail
      all_goals (go_ret3; exact ⟨HF.out, Below.refl _ _⟩)
  · rw [if_neg (fun k => hm k.1), if_neg hm] at C
    have HF := hide (rde_width (x := x) (i := i) hm)
    have HC := hide C
    clear C
    go_enter Try.func20, Try.ntmps20
    go_wp2_with fail
    refine Calls.mono HC.out ?_
    rintro e w' ⟨rfl, rfl⟩
    go_wp2_with fail
    all_goals (go_ret3; exact ⟨HF.out, Below.refl _ _⟩)
end Go.Proofs.Ythihmgdefbahpaa
