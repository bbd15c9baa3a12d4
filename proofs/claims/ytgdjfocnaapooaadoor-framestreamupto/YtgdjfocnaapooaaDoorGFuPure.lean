import Derived.Test.YtgdjfocnaapooaaDoorGFdDec2
import Derived.Test.YtgdjfocnaapooaaDoorGFsFirst
import Derived.Test.YtgdjfocnaapooaaDoorGFdAll
import Derived.Test.YtgdjfocnaapooaaDoorGFsSplit
namespace Go.Proofs.YtgdjfocnaapooaaDoor
open Go.RowKit
theorem ba_eq {a b : ByteArray} (h : a.data.toList = b.data.toList) : a = b := by
  cases a; cases b; simp only at h; rw [Array.toList_inj.1 h]
theorem app_data (a b : ByteArray) : (a ++ b).data.toList = a.data.toList ++ b.data.toList := by rw [ByteArray.data_append, Array.toList_append]
theorem ext_app_l {t u : ByteArray} {a b : Nat} (h : b ≤ t.size) : (t ++ u).extract a b = t.extract a b := by
  apply ba_eq
  rw [slice_str, slice_str, app_data]
  by_cases ha : a ≤ t.size
  · rw [List.drop_append_of_le_length (by rw [size_data]; exact ha), List.take_append_of_le_length (by rw [List.length_drop, size_data]; omega)]
  · rw [show b - a = 0 by omega, List.take_zero, List.take_zero]
theorem fu_ext (s : ByteArray) (i a b : Nat) : (s.extract i s.size).extract a b = s.extract (i + a) (min (i + b) s.size) := by
  apply ba_eq
  rw [slice_str, slice_str, slice_str, List.drop_take, List.drop_drop, List.take_take, Nat.min_def]
  congr 1
  split <;> (rw [Nat.min_def]; split <;> omega)
theorem ext_all (s : ByteArray) : s.extract 0 s.size = s := by
  apply ba_eq
  rw [slice_str, List.drop_zero, List.take_of_length_le (by rw [size_data]; omega)]
theorem ext_tail {s : ByteArray} {i n : Nat} (_h : i + n ≤ s.size) : (s.extract i s.size).extract n (s.extract i s.size).size = s.extract (i + n) s.size := by
  rw [fu_ext, ByteArray.size_extract, show min (i + (min s.size s.size - i)) s.size = s.size by omega]
theorem knd_app {t u : ByteArray} (h : 3 < t.size) : kndF (t ++ u) = kndF t := by
  unfold kndF
  rw [app_data, List.getD_eq_getElem?_getD, List.getElem?_append_left (by rw [size_data]; exact h), ← List.getD_eq_getElem?_getD]
theorem bsz_app {t u : ByteArray} (h : 20 ≤ t.size) : bszF (t ++ u) = bszF t := by
  unfold bszF
  rw [app_data, List.drop_append_of_le_length (by rw [size_data]; omega), List.take_append_of_le_length (by rw [List.length_drop, size_data]; omega)]
theorem knd_ext {t : ByteArray} {n : Nat} (h : 4 ≤ n) : kndF (t.extract 0 n) = kndF t := by
  unfold kndF
  rw [slice_str, List.drop_zero, List.getD_eq_getElem?_getD, List.getElem?_take_of_lt (by omega), ← List.getD_eq_getElem?_getD]
/-- what mayBegin tells -/
def magP (t : ByteArray) : Bool := decide (t.extract 0 (min t.size 3) = magF.extract 0 (min t.size 3))
def kndP (t : ByteArray) : Bool := decide (t.size ≤ 3) || (decide (1 ≤ kndF t) && decide (kndF t ≤ 16))
def bodP (t : ByteArray) : Bool := decide (t.size < 20) || (decide (bszF t ≤ 4383) && decide (t.size < 24 + bszF t))
def mayP (t : ByteArray) : Bool := magP t && kndP t && bodP t
theorem first_chk {x : ByteArray} {n : Nat} {m : MM} (h : firstP x = some (n, m)) : 24 ≤ n ∧ n ≤ x.size ∧ n ≤ 4407 ∧ n = 24 + bszF x ∧ x.extract 0 3 = magF ∧ 1 ≤ kndF x ∧ kndF x ≤ 16 := by
  obtain ⟨h1, h2, h3, hd⟩ := firstP_size h
  have hz : n = 24 + bszF x := by
    unfold firstP at h
    split at h
    · simp at h
    · split at h
      · simp at h
      · simp only [Option.some.injEq, Prod.mk.injEq] at h
        exact h.1.symm
  have hc : chkE (x.extract 0 n) = 0 := by
    by_cases hc : chkE (x.extract 0 n) = 0
    · exact hc
    · unfold decM at hd; rw [if_neg hc] at hd; cases hd
  obtain ⟨_, c2, c3, _, _, _⟩ := chk_lt hc
  rw [knd_ext (by omega)] at c3
  refine ⟨h1, h2, h3, hz, ?_, c3⟩
  rw [← c2]
  apply ba_eq
  simp only [slice_str, List.drop_zero, List.take_take, Nat.sub_zero]
  rw [show min 3 n = 3 by omega]
theorem first_mag {t u : ByteArray} (h : magP t = false) : firstP (t ++ u) = none := by
  cases hf : firstP (t ++ u) with
  | none => rfl
  | some y =>
    obtain ⟨n, m⟩ := y
    obtain ⟨_, _, _, _, c, _⟩ := first_chk hf
    exfalso
    have : t.extract 0 (min t.size 3) = magF.extract 0 (min t.size 3) := by
      rw [← c, ← ext_app_l (u := u) (show min t.size 3 ≤ t.size by omega)]
      apply ba_eq
      simp only [slice_str, List.drop_zero, List.take_take, Nat.sub_zero]
      rw [show min (min t.size 3) 3 = min t.size 3 by omega]
    unfold magP at h
    rw [decide_eq_true this] at h
    cases h
theorem first_knd {t u : ByteArray} (h : kndP t = false) : firstP (t ++ u) = none := by
  unfold kndP at h
  simp only [Bool.or_eq_false_iff, Bool.and_eq_false_iff, decide_eq_false_iff_not] at h
  cases hf : firstP (t ++ u) with
  | none => rfl
  | some y =>
    obtain ⟨n, m⟩ := y
    obtain ⟨_, _, _, _, _, c⟩ := first_chk hf
    rw [knd_app (by omega)] at c
    omega
/-- what cannot begin a frame that is not whole yet says the same whatever comes behind it -/
theorem first_stable {t : ByteArray} (u : ByteArray) (h : mayP t = false) : firstP (t ++ u) = firstP t := by
  have e0 : firstP t = firstP (t ++ ⟨#[]⟩) := by rw [show t ++ (⟨#[]⟩ : ByteArray) = t from ByteArray.append_empty]
  unfold mayP at h
  simp only [Bool.and_eq_false_iff] at h
  rcases h with (h | h) | h
  · rw [first_mag h, e0, first_mag h]
  · rw [first_knd h, e0, first_knd h]
  · unfold bodP at h
    simp only [Bool.or_eq_false_iff, Bool.and_eq_false_iff, decide_eq_false_iff_not] at h
    obtain ⟨h20, hb⟩ := h
    have ez := bsz_app (u := u) (show 20 ≤ t.size by omega)
    rcases hb with hb | hb
    · have no : ∀ x : ByteArray, bszF x = bszF t → firstP x = none := fun x hx => by
        cases hf : firstP x with
        | none => rfl
        | some y => obtain ⟨n, m⟩ := y; obtain ⟨_, _, c1, c2, _⟩ := first_chk hf; omega
      rw [no _ ez, no _ rfl]
    · unfold firstP
      rw [ez, ByteArray.size_append, if_neg (by omega), if_neg (by omega), ext_app_l (by omega)]
/-- the frames of a text: sizes and messages -/
def splF : Nat → ByteArray → List (Nat × MM)
  | 0, _ => []
  | f + 1, t => if t.size = 0 then [] else match firstP t with
    | none => splF f (t.extract 1 t.size)
    | some (n, m) => (n, m) :: splF f (t.extract n t.size)
def splT (t : ByteArray) : List (Nat × MM) := splF t.size t
theorem splF_zero {t : ByteArray} (f : Nat) (h : t.size = 0) : splF f t = [] := by
  cases f with
  | zero => rfl
  | succ f => unfold splF; rw [if_pos h]
theorem splF_fuel : ∀ f g (t : ByteArray), t.size ≤ f → t.size ≤ g → splF f t = splF g t := by
  intro f
  induction f with
  | zero => intro g t h _; rw [splF_zero 0 (by omega), splF_zero g (by omega)]
  | succ f ih =>
    intro g t hf hg
    cases g with
    | zero => rw [splF_zero _ (by omega), splF_zero _ (by omega)]
    | succ g =>
      unfold splF
      by_cases h0 : t.size = 0
      · rw [if_pos h0, if_pos h0]
      · rw [if_neg h0, if_neg h0]
        cases hn : firstP t with
        | none => exact ih g _ (by rw [ByteArray.size_extract]; omega) (by rw [ByteArray.size_extract]; omega)
        | some y =>
          obtain ⟨n, m⟩ := y
          have := firstP_size hn
          simp only
          rw [ih g _ (by rw [ByteArray.size_extract]; omega) (by rw [ByteArray.size_extract]; omega)]
theorem splT_zero {t : ByteArray} (h : t.size = 0) : splT t = [] := splF_zero _ h
theorem splT_none {t : ByteArray} (h : t.size ≠ 0) (hn : firstP t = none) : splT t = splT (t.extract 1 t.size) := by
  unfold splT
  obtain ⟨f, hf⟩ : ∃ f, t.size = f + 1 := ⟨t.size - 1, by omega⟩
  conv => lhs; rw [hf]; unfold splF
  rw [if_neg h, hn]
  simp only
  exact splF_fuel _ _ _ (by rw [ByteArray.size_extract]; omega) (Nat.le_refl _)
theorem splT_some {t : ByteArray} {n : Nat} {m : MM} (hn : firstP t = some (n, m)) : splT t = (n, m) :: splT (t.extract n t.size) := by
  have hz := firstP_size hn
  unfold splT
  obtain ⟨f, hf⟩ : ∃ f, t.size = f + 1 := ⟨t.size - 1, by omega⟩
  conv => lhs; rw [hf]; unfold splF
  rw [if_neg (by omega), hn]
  simp only
  rw [splF_fuel f _ (t.extract n t.size) (by rw [ByteArray.size_extract]; omega) (Nat.le_refl _)]
theorem split_splT (s : ByteArray) : ∀ f i, i ≤ s.size → s.size ≤ i + f → (splitP s i).map (·.2) = splT (s.extract i s.size) := by
  intro f
  induction f with
  | zero => intro i hi h; rw [splitP_end (by omega), splT_zero (by rw [ByteArray.size_extract]; omega)]; rfl
  | succ f ih =>
    intro i hi h
    by_cases hl : i < s.size
    · have hne : (s.extract i s.size).size ≠ 0 := by rw [ByteArray.size_extract]; omega
      cases hn : nextP s i with
      | none => rw [splitP_none hl hn, splT_none hne hn, ext_tail (by omega)]; exact ih (i + 1) (by omega) (by omega)
      | some x =>
        obtain ⟨n, m⟩ := x
        have hz := firstP_size hn
        rw [ByteArray.size_extract] at hz
        rw [splitP_some hl hn, splT_some hn, ext_tail (by omega), List.map_cons, ih (i + n) (by omega) (by omega)]
    · rw [splitP_end (by omega), splT_zero (by rw [ByteArray.size_extract]; omega)]; rfl
theorem split_all (s : ByteArray) : (splitP s 0).map (·.2) = splT s := by
  rw [split_splT s s.size 0 (by omega) (by omega), ext_all]
/-- the messages of a text -/
def msgT (t : ByteArray) : List MM := (splT t).map (·.2)
/-- what belongs to no frame -/
def sumZ : List (Nat × MM) → Nat
  | [] => 0
  | x :: l => x.1 + sumZ l
def skT (t : ByteArray) : Int := (t.size : Int) - (sumZ (splT t) : Int)
theorem msgT_none {t : ByteArray} (h : t.size ≠ 0) (hn : firstP t = none) : msgT t = msgT (t.extract 1 t.size) ∧ skT t = 1 + skT (t.extract 1 t.size) := by
  unfold msgT skT
  rw [splT_none h hn, ByteArray.size_extract]
  exact ⟨rfl, by omega⟩
theorem msgT_some {t : ByteArray} {n : Nat} {m : MM} (hn : firstP t = some (n, m)) : msgT t = m :: msgT (t.extract n t.size) ∧ skT t = skT (t.extract n t.size) := by
  have hz := firstP_size hn
  unfold msgT skT
  rw [splT_some hn, ByteArray.size_extract]
  exact ⟨rfl, by simp only [sumZ]; omega⟩
theorem tail_app {t u : ByteArray} {n : Nat} (h : n ≤ t.size) : (t ++ u).extract n (t ++ u).size = t.extract n t.size ++ u := by
  apply ba_eq
  rw [app_data, slice_str, slice_str, app_data, ByteArray.size_append, List.drop_append_of_le_length (by rw [size_data]; exact h), List.take_of_length_le (by rw [List.length_append, List.length_drop, size_data, size_data]; omega), List.take_of_length_le (by rw [List.length_drop, size_data]; omega)]
/-- so far told: L, so far skipped: k, left: r, of the text t -/
def Fed (t : ByteArray) (L : List MM) (k : Nat) (r : ByteArray) : Prop := ∀ u, msgT (t ++ u) = L ++ msgT (r ++ u) ∧ skT (t ++ u) = (k : Int) + skT (r ++ u)
theorem Fed.start (t : ByteArray) : Fed t [] 0 t := fun _ => ⟨rfl, by omega⟩
theorem Fed.skip {t : ByteArray} {L : List MM} {k : Nat} {r : ByteArray} (h : Fed t L k r) (h0 : r.size ≠ 0) (hm : mayP r = false) (hn : firstP r = none) : Fed t L (k + 1) (r.extract 1 r.size) := fun u => by
  obtain ⟨h1, h2⟩ := h u
  obtain ⟨g1, g2⟩ := msgT_none (t := r ++ u) (by rw [ByteArray.size_append]; omega) (by rw [first_stable u hm]; exact hn)
  rw [tail_app (by omega)] at g1 g2
  exact ⟨by rw [h1, g1], by rw [h2, g2]; omega⟩
theorem Fed.tell {t : ByteArray} {L : List MM} {k : Nat} {r : ByteArray} (h : Fed t L k r) (hm : mayP r = false) {n : Nat} {m : MM} (hn : firstP r = some (n, m)) : Fed t (L ++ [m]) k (r.extract n r.size) := fun u => by
  obtain ⟨h1, h2⟩ := h u
  obtain ⟨g1, g2⟩ := msgT_some (t := r ++ u) (by rw [first_stable u hm]; exact hn)
  rw [tail_app (firstP_size hn).2.1] at g1 g2
  exact ⟨by rw [h1, g1, List.append_assoc]; rfl, by rw [h2, g2]⟩
theorem Fed.join {a b r r' : ByteArray} {L L' : List MM} {k k' : Nat} (h : Fed a L k r) (h' : Fed (r ++ b) L' k' r') : Fed (a ++ b) (L ++ L') (k + k') r' := fun u => by
  obtain ⟨h1, h2⟩ := h (b ++ u)
  obtain ⟨g1, g2⟩ := h' u
  rw [← ByteArray.append_assoc] at h1 h2
  rw [← ByteArray.append_assoc] at h1 h2
  exact ⟨by rw [h1, g1, List.append_assoc], by rw [h2, g2]; omega⟩
end Go.Proofs.YtgdjfocnaapooaaDoor
namespace Go.Proofs.YtgdjfocnaapooaaDoor
open Go.RowKit
theorem may_mag {t : ByteArray} (h : magP t = false) : mayP t = false := by unfold mayP; rw [h]; rfl
theorem may_knd {t : ByteArray} (h : kndP t = false) : mayP t = false := by unfold mayP; rw [h]; simp
theorem may_bod {t : ByteArray} (h : magP t = true) (h2 : kndP t = true) : mayP t = bodP t := by unfold mayP; rw [h, h2]; rfl
set_option maxHeartbeats 4000000 in
set_option maxRecDepth 100000 in
set_option linter.unusedSimpArgs false in
/-- mayBegin -/
theorem mayBegin_any (t : ByteArray) (w : World) :
    Calls Tryd.prog 29 #[.string t] w fun e w' => e = .returned (.bool (mayP t)) ∧ Below w.heap.size w w' := by
  have IK := hide (fun w' => isKind_any (kndF t : Int) w')
  have hx : magF = ⟨#[71, 82, 1]⟩ := rfl
  have EB := hide (eq_beq (t.extract 0 (min t.size 3)) (magF.extract 0 (min t.size 3)))
  have MP : Hid (magP t = decide (t.extract 0 (min t.size 3) = magF.extract 0 (min t.size 3))) := rfl
  have hmin : min (t.size : Int) 3 = ((min t.size 3 : Nat) : Int) := by omega
  have hk1 : min t.size 3 ≤ t.size := by omega
  have hk3 : min t.size 3 ≤ 3 := by omega
  have hb := (Below.refl w.heap.size w).drew
  go_enter Tryd.func29, Tryd.ntmps29
  go_wp2_with fail
  clear hmin
  generalize min t.size 3 = k at *
  rw [hx] at EB MP
  clear hx
  refine wp_region_held_drew (S := fun _ => True) (by kernel_rfl) trivial (fun hHeld => ?_)
  generalize w.drew = wd at *
  refine wpAnyH_take (i := 0) (v := (.string t)) rfl (by kernel_rfl) (by kernel_rfl) (by kernel_rfl) (fun _ _ _ h => h) (Or.inl ⟨by rfl, ?_⟩) (by assumption) ?_
  · intro w' hSw
    (try dsimp only at hSw)
    go_simp <;> first | exact i64_in (by omega) (by omega) | exact u32_in (by omega) (by omega) | exact u32_add _ _ | (rw [Int.tmod_eq_emod_of_nonneg (by omega)]; omega) | (rw [Int.tdiv_eq_ediv_of_nonneg (by omega)]; omega) | omega
  (try simp only [Act.put, List.setIfInBounds_toArray, List.set_cons_zero, List.set_cons_succ])
  refine wpAnyH_take (i := 1) (v := (.int .i64 (k : Int))) rfl (by kernel_rfl) (by kernel_rfl) (by kernel_rfl) (fun _ _ _ h => h) (Or.inl ⟨by rfl, ?_⟩) (by assumption) ?_
  · intro w' hSw
    (try dsimp only at hSw)
    go_simp <;> first | exact i64_in (by omega) (by omega) | exact u32_in (by omega) (by omega) | exact u32_add _ _ | (rw [Int.tmod_eq_emod_of_nonneg (by omega)]; omega) | (rw [Int.tdiv_eq_ediv_of_nonneg (by omega)]; omega) | omega
  (try simp only [Act.put, List.setIfInBounds_toArray, List.set_cons_zero, List.set_cons_succ])
  refine wpAnyH_take (i := 2) (v := (.string (t.extract 0 k))) rfl (by kernel_rfl) (by kernel_rfl) (by kernel_rfl) (fun _ _ _ h => h) (Or.inl ⟨by rfl, ?_⟩) (by assumption) ?_
  · intro w' hSw
    (try dsimp only at hSw)
    go_simp <;> first | exact i64_in (by omega) (by omega) | exact u32_in (by omega) (by omega) | exact u32_add _ _ | (rw [Int.tmod_eq_emod_of_nonneg (by omega)]; omega) | (rw [Int.tdiv_eq_ediv_of_nonneg (by omega)]; omega) | omega
  (try simp only [Act.put, List.setIfInBounds_toArray, List.set_cons_zero, List.set_cons_succ])
  refine wpAnyH_take (i := 3) (v := (.int .i64 (k : Int))) rfl (by kernel_rfl) (by kernel_rfl) (by kernel_rfl) (fun _ _ _ h => h) (Or.inl ⟨by rfl, ?_⟩) (by assumption) ?_
  · intro w' hSw
    (try dsimp only at hSw)
    go_simp <;> first | exact i64_in (by omega) (by omega) | exact u32_in (by omega) (by omega) | exact u32_add _ _ | (rw [Int.tmod_eq_emod_of_nonneg (by omega)]; omega) | (rw [Int.tdiv_eq_ediv_of_nonneg (by omega)]; omega) | omega
  (try simp only [Act.put, List.setIfInBounds_toArray, List.set_cons_zero, List.set_cons_succ])
  refine wpAnyH_take (i := 4) (v := (.string ((⟨#[71, 82, 1]⟩ : ByteArray).extract 0 k))) rfl (by kernel_rfl) (by kernel_rfl) (by kernel_rfl) (fun _ _ _ h => h) (Or.inl ⟨by rfl, ?_⟩) (by assumption) ?_
  · intro w' hSw
    (try dsimp only at hSw)
    (go_simp <;> first | omega | (rw [if_neg (by have : (⟨#[71, 82, 1]⟩ : ByteArray).size = 3 := rfl; omega)]; rfl))
  (try simp only [Act.put, List.setIfInBounds_toArray, List.set_cons_zero, List.set_cons_succ])
  refine wpAnyH_ready (rs := [5]) (by kernel_rfl) (by simp) ?_
  refine AllReadyH.cons rfl (fun K hK => ?_) AllReadyH.nil
  go_simp
  rw [EB.out, ← MP.out]
  refine hK.out _ _ (trivial) (fun hHeld => ?_)
  clear hK
  (try simp only [Act.put, List.setIfInBounds_toArray, List.set_cons_zero, List.set_cons_succ])
  refine wpAnyH_done (by kernel_rfl) ?_ _
  clear hHeld EB MP
  cases hM : magP t
  case false =>
    have E := hide (may_mag hM)
    clear hM
    go_wp2_with fail
    go_ret
    exact ⟨by rw [E.out]; rfl, hb⟩
  case true =>
    have HM := hide hM
    clear hM hk1 hk3
    by_cases h3 : 3 < t.size
    case neg =>
      have h3i : ¬ (3 : Int) < (t.size : Int) := by omega
      have HK : Hid (kndP t = true) := by show _ = _; unfold kndP; rw [decide_eq_true (show t.size ≤ 3 by omega)]; rfl
      have E := hide (show mayP t = true by rw [may_bod HM.out HK.out]; unfold bodP; rw [decide_eq_true (show t.size < 20 by omega)]; rfl)
      have hi : (t.size : Int) < 20 := by omega
      go_wp2_with fail
      go_ret
      exact ⟨by rw [E.out]; rfl, hb⟩
    case pos =>
      have h3i : (3 : Int) < (t.size : Int) := by omega
      have K3 := knd_at t h3
      have hkb : kndF t < 256 := by rw [← K3]; exact UInt8.toNat_lt _
      go_wp2_with fail
      refine Calls.mono (IK.out _) ?_
      rintro e wx ⟨rfl, rfl⟩
      by_cases hK : 1 ≤ kndF t ∧ kndF t ≤ 16
      case neg =>
        have E : Hid (mayP t = false) := may_knd (by unfold kndP; rw [decide_eq_false (show ¬ t.size ≤ 3 by omega), Bool.false_or, ← Bool.decide_and]; exact decide_eq_false hK)
        rw [decide_eq_false (by omega)]
        go_wp2_with fail
        go_ret
        exact ⟨by rw [E.out]; rfl, hb⟩
      case pos =>
        have HK : Hid (kndP t = true) := by show _ = _; unfold kndP; rw [decide_eq_true hK.1, decide_eq_true hK.2]; simp
        rw [decide_eq_true (by omega)]
        clear IK K3 hK hkb
        have S2 := Nat.lt_or_ge t.size 20
        rcases S2 with h20 | h20
        · have E := hide (show mayP t = true by rw [may_bod HM.out HK.out]; unfold bodP; rw [decide_eq_true h20]; rfl)
          have hi : (t.size : Int) < 20 := by omega
          go_wp2_with fail
          go_ret
          exact ⟨by rw [E.out]; rfl, hb⟩
        · have hi : ¬ (t.size : Int) < 20 := by omega
          have BS := hide (fun w' => bodySize_any t (by omega) w')
          have FS := hide (fun w' => frameSize_any t (by omega) w')
          go_wp2_with fail
          refine Calls.mono (BS.out _) ?_
          rintro e wx ⟨rfl, rfl⟩
          by_cases h4 : bszF t ≤ 4383
          · have h4' : (bszF t : Int) ≤ 4383 := by omega
            have E : Hid (mayP t = decide ((t.size : Int) < 24 + (bszF t : Int))) := by
              show _ = _
              rw [may_bod HM.out HK.out]; unfold bodP; rw [decide_eq_false (show ¬ t.size < 20 by omega), decide_eq_true h4, Bool.false_or, Bool.true_and]
              exact decide_eq_decide.2 (by omega)
            go_wp2_with fail
            refine Calls.mono (FS.out _) ?_
            rintro e wx ⟨rfl, rfl⟩
            go_wp2_with fail
            go_ret
            exact ⟨by rw [E.out]; show Ending.returned (.bool (decide ((t.size : Int) < 20) || decide ((t.size : Int) < 24 + (bszF t : Int)))) = _; rw [decide_eq_false (show ¬ (t.size : Int) < 20 by omega)]; rfl, hb⟩
          · have h4' : ¬ (bszF t : Int) ≤ 4383 := by omega
            have E : Hid (mayP t = false) := by
              show _ = _
              rw [may_bod HM.out HK.out]; unfold bodP; rw [decide_eq_false (show ¬ t.size < 20 by omega), decide_eq_false h4]; rfl
            go_wp2_with fail
            go_ret
            exact ⟨by rw [E.out]; show Ending.returned (.bool (decide ((t.size : Int) < 20))) = _; rw [decide_eq_false (show ¬ (t.size : Int) < 20 by omega)], hb⟩
end Go.Proofs.YtgdjfocnaapooaaDoor
namespace Go.Proofs.YtgdjfocnaapooaaDoor
open Go.RowKit
/-- a Reader in memory -/
def RdAt (w : World) (R : Nat) (h : ByteArray) (k : Int) : Prop := w.heap[R]? = some (.cells #[.string h, .int .i64 k] 77)
set_option maxHeartbeats 4000000 in
set_option maxRecDepth 100000 in
theorem newReader_any (w : World) : Calls Tryd.prog 9 #[] w fun e w' => e = .returned (.pointer (some ⟨w.heap.size, 0, none⟩)) ∧ RdAt w' w.heap.size ⟨#[]⟩ 0 ∧ Below w.heap.size w w' := by
  go_enter Tryd.func9, Tryd.ntmps9
  go_wp2_with fail
  go_ret
  exact ⟨rfl, heap_last w _, (Below.refl _ w).alloc (Nat.le_refl _) _⟩
set_option maxHeartbeats 4000000 in
set_option maxRecDepth 100000 in
theorem skipped_any (w : World) (R : Nat) (h : ByteArray) (k : Int) (hR : RdAt w R h k) : Calls Tryd.prog 14 #[.pointer (some ⟨R, 0, none⟩)] w fun e w' => e = .returned (.int .i64 k) ∧ w = w' := by
  have c1 : w.cell? ⟨R, 1, none⟩ = some (.int .i64 k) := by unfold World.cell?; rw [hR]; rfl
  go_enter Tryd.func14, Tryd.ntmps14
  go_wp2_with fail
  go_ret
  exact ⟨rfl, rfl⟩
/-- a list of messages, as cells -/
def mcs (l : List MM) : List Value := l.flatMap fun m => (msgV m).toList
theorem mcs_append (a b : List MM) : mcs (a ++ b) = mcs a ++ mcs b := List.flatMap_append
theorem mcs_one (m : MM) : mcs [m] = (msgV m).toList := by unfold mcs; rw [List.flatMap_cons, List.flatMap_nil, List.append_nil]
theorem msgs_one (m : MM) : ∀ u ∈ mcs [m], u.oneCell' = true := by
  rw [mcs_one]
  intro u hu
  unfold msgV at hu
  simp only [List.mem_cons, List.not_mem_nil, or_false] at hu
  rcases hu with rfl | rfl | rfl | rfl | rfl | rfl | rfl | rfl | rfl | rfl | rfl <;> rfl
set_option maxRecDepth 100000 in
theorem infoMg : (Tryd.prog.info? 27).map (fun i => (i.zero, i.size, i.bytes)) = some (some (.agg #[.int .i64 0, .int .i64 0, .int .i64 0, .int .i64 0, .int .i64 0, .int .i64 0, .int .i64 0, .int .i64 0, .int .i64 0, .string ⟨#[]⟩, .string ⟨#[]⟩]), 11, 104) := by kernel_rfl
theorem fill_msg (m : MM) (z : Value) (hz : z = .agg #[.int .i64 0, .int .i64 0, .int .i64 0, .int .i64 0, .int .i64 0, .int .i64 0, .int .i64 0, .int .i64 0, .int .i64 0, .string ⟨#[]⟩, .string ⟨#[]⟩]) : Instr.fill (fun i => some (i * 11, 11)) ((Array.range (1 * 11)).map (z.cells[· % z.cells.size]!)) [(0, .agg (msgV m))] = some (msgV m) := by
  subst hz
  kernel_rfl
theorem wp_bsMsg {w : World} {o : Oper} {a : Act} {K : Act → World → Prop} {Q : Exit → Act → World → Prop} (x : Operand) (ho : o.op = .buildSlice 31 1 #[(0, x)]) (m : MM) (hx : a.eval x = .agg (msgV m))
    (h : K (a.put o.dst (.slice (some ⟨w.heap.size, 0, none⟩) 1 1)) (w.alloc (.cells (msgV m) 27))) : o.wp Tryd.prog a w K Q := by
  obtain ⟨i0, hi, hz0, hz1, hz2⟩ := info_partsF infoMg
  refine wp_buildSlice 31 27 1 _ ho (msgV m) i0 _ Tryd.underlying31 hi hz0 (by rw [hz1]; decide) (by rw [hz1]; decide) ?_ h
  rw [hz1]
  simp only [List.map_toArray, List.map_cons, List.map_nil, hx]
  exact fill_msg m _ rfl
theorem wpList_bsMsg {w : World} {ops : Array Oper} {rest : List Oper} {o : Oper} {a : Act} {Q : Exit → Act → World → Prop} (hgd : o.guard = none) (x : Operand) (ho : o.op = .buildSlice 31 1 #[(0, x)]) (m : MM) (hx : a.eval x = .agg (msgV m))
    (h : wpList Tryd.prog ops Q rest (a.put o.dst (.slice (some ⟨w.heap.size, 0, none⟩) 1 1)) (w.alloc (.cells (msgV m) 27))) : wpList Tryd.prog ops Q (o :: rest) a w :=
  wpList_plain hgd fun _ hK => wp_bsMsg x ho m hx (hK _ _ h)
theorem msg_cell (w : World) (m : MM) : ∀ j u, (mcs [m])[j]? = some u → (w.alloc (.cells (msgV m) 27)).cell? ((⟨w.heap.size, 0, none⟩ : Addr).add j) = some u := by
  rw [mcs_one]
  intro j u hj
  have ea : ((⟨w.heap.size, 0, none⟩ : Addr).add j) = ⟨w.heap.size, j, none⟩ := by rw [Addr.add_mid, Nat.zero_add]
  rw [ea]
  have e := heap_last w (.cells (msgV m) 27)
  unfold World.cell?
  rw [e]
  show (msgV m)[j]? = some u
  rw [← Array.getElem?_toList]
  exact hj
theorem msg_room {k : Nat} (h : k ≤ 1000000000000) : k + 1 ≤ maxLen ∧ (k + 1) * 104 ≤ 140737488355328 := by unfold maxLen; omega
theorem RdAt.c0 {w : World} {R : Nat} {h : ByteArray} {k : Int} (hR : RdAt w R h k) : w.cell? ⟨R, 0, none⟩ = some (.string h) := by unfold World.cell?; rw [hR]; rfl
theorem RdAt.c1 {w : World} {R : Nat} {h : ByteArray} {k : Int} (hR : RdAt w R h k) : w.cell? ⟨R, 1, none⟩ = some (.int .i64 k) := by unfold World.cell?; rw [hR]; rfl
theorem RdAt.below {w w' : World} {R : Nat} {h : ByteArray} {k : Int} (hR : RdAt w R h k) (hb : Below w.heap.size w w') : RdAt w' R h k := (hb.block _ (blk_lt hR)).trans hR
/-- the blocks but R are as they were -/
theorem grown_below {w w' w'' : World} {R : Option Nat} (h : w.grownBy w' R) (hb : Below w'.heap.size w' w'') : w.grownBy w'' R := ⟨hb.os.trans h.os, hb.tape.trans h.tape, hb.output.trans h.output, Nat.le_trans h.size hb.size, fun i hi hn => (hb.block i (Nat.lt_of_lt_of_le hi h.size)).trans (h.block i hi hn)⟩
def strSz : Value → Nat
  | .string r => r.size
  | _ => 0
theorem emp_no {r : ByteArray} (h : r.size ≠ 0) : r.toList.isEmpty = false := by
  cases e : r.toList.isEmpty with
  | false => rfl
  | true => exact absurd (isEmpty_iff.1 e) h
theorem grown_set {w w' : World} {R j : Nat} (h : w.grownBy w' (some R)) (v : Value) : w.grownBy (w'.setCell ⟨R, j, none⟩ v) (some R) := ⟨h.os, h.tape, h.output, by rw [World.size_setCell]; exact h.size, fun i hi hn => (Below.heap_setCell _ _ _ i (fun e => hn (by rw [e]))).trans (h.block i hi hn)⟩
theorem RdAt.set1 {w : World} {R : Nat} {h : ByteArray} {k : Int} (hR : RdAt w R h k) (k' : Int) : RdAt (w.setCell ⟨R, 1, none⟩ (.int .i64 k')) R h k' := heap_setCell _ _ _ _ _ _ _ hR
theorem RdAt.set0 {w : World} {R : Nat} {h : ByteArray} {k : Int} (hR : RdAt w R h k) (r : ByteArray) : RdAt (w.setCell ⟨R, 0, none⟩ (.string r)) R r k := heap_setCell _ _ _ _ _ _ _ hR
theorem RdAt.f0 {w : World} {R j : Nat} {h : ByteArray} {k : Int} (hR : RdAt w R h k) : w.frozen? ⟨R, j, none⟩ = false := by unfold World.frozen?; rw [hR]; simp
theorem RdAt.not_row {w : World} {R : Nat} {h : ByteArray} {k : Int} (hR : RdAt w R h k) {base n : Nat} {v : Value} {xs : List Value} (hr : w.ownsRow base 27 11 v n xs) : some R ≠ v.ownBlock := by
  rcases hr.2 with ⟨rfl, _⟩ | ⟨g, cap, cur, rfl, _, hgb, _⟩
  · simp [Value.ownBlock]
  · intro e'
    obtain rfl : R = g := by simpa [Value.ownBlock] using e'
    have := (show w.heap[R]? = _ from hR).symm.trans hgb
    simp at this
theorem own_set {w : World} {R j : Nat} {h : ByteArray} {k : Int} (hR : RdAt w R h k) {base n : Nat} {v : Value} {xs : List Value} (hr : w.ownsRow base 27 11 v n xs) (u : Value) : (w.setCell ⟨R, j, none⟩ u).ownsRow base 27 11 v n xs :=
  hr.kept (row := some R) ⟨rfl, rfl, rfl, by rw [World.size_setCell]; exact Nat.le_refl _, fun i _ hn => Below.heap_setCell _ _ _ i (fun e => hn (by rw [e]))⟩ (.inr (fun e => hR.not_row hr e.symm))
theorem own_sl {w : World} {base e sz n : Nat} {v : Value} {xs : List Value} (h : w.ownsRow base e sz v n xs) : ∃ ba cap, v = .slice ba n cap := by
  rcases h.2 with ⟨hv, hz⟩ | ⟨g, cap, cur, hv, _⟩
  · exact ⟨none, 0, by rw [hv, hz]⟩
  · exact ⟨_, _, hv⟩
/-- what the loop keeps -/
def FdInv (R : Nat) (h t : ByteArray) (k : Nat) (w : World) (L : List MM) (j : Nat) (r : ByteArray) (vt : Value) (wr : World) : Prop :=
  Fed t L j r ∧ r.size + j + L.length ≤ t.size ∧ RdAt wr R h ((k + j : Nat) : Int) ∧ wr.ownsRow w.heap.size 27 11 vt L.length (mcs L) ∧ w.grownBy wr (some R)
theorem FdInv.below {R : Nat} {h t : ByteArray} {k : Nat} {w : World} {L : List MM} {j : Nat} {r : ByteArray} {vt : Value} {wr w' : World} (hI : FdInv R h t k w L j r vt wr) (hb : Below wr.heap.size wr w') : FdInv R h t k w L j r vt w' :=
  ⟨hI.1, hI.2.1, hI.2.2.1.below hb, own_belowS hI.2.2.2.1 hb, grown_below hI.2.2.2.2 hb⟩
theorem grown_n0 {w w' : World} {R n₀ : Nat} (h : w.grownBy w' (some R)) (h1 : n₀ ≤ R) (h2 : R < w.heap.size) : Below n₀ w w' := ⟨h.os, h.tape, h.output, h.size, fun i hi => h.block i (by omega) (fun e => by cases e; omega)⟩
set_option maxHeartbeats 8000000 in
set_option maxRecDepth 100000 in
set_option linter.unusedSimpArgs false in
/-- Feed -/
theorem feed_any (R n₀ : Nat) (h s : ByteArray) (k : Nat) (hs : h.size + s.size ≤ 800000000000) (hk : k ≤ 1000000000000000) (w : World) (hR : RdAt w R h (k : Int)) (hn₀ : n₀ ≤ R) (HT : ∀ W', Below n₀ w W' → TabF W' ∧ Tab4 5 W') :
    Calls Tryd.prog 11 #[.pointer (some ⟨R, 0, none⟩), .string s] w fun e w' => ∃ v L j r, e = .returned (.tuple #[v, .int .i64 0]) ∧ Fed (h ++ s) L j r ∧ (r.size = 0 ∨ mayP r = true) ∧ r.size + j + L.length ≤ h.size + s.size ∧ RdAt w' R r ((k + j : Nat) : Int) ∧ w'.ownsRow w.heap.size 27 11 v L.length (mcs L) ∧ w.grownBy w' (some R) := by
  have c0 := hR.c0
  have c1 := hR.c1
  have hsz : (h ++ s).size = h.size + s.size := ByteArray.size_append
  go_enter Tryd.func11, Tryd.ntmps11
  go_wp2_with fail
  have HTH := hide HT
  clear HT
  have hRl := blk_lt hR
  go_loopw [6, 7, 8, 9] (fun vt vr _ _ wr => ∃ L j r, vr = .string r ∧ FdInv R h (h ++ s) k w L j r vt wr) (fun _ vr _ _ _ => strSz vr)
  case atStart => exact ⟨[], 0, h ++ s, rfl, Fed.start _, by simp, hR, World.ownsRow_nil _ _ _ _, ⟨rfl, rfl, rfl, Nat.le_refl _, fun _ _ _ => rfl⟩⟩
  case round =>
    clear c0 c1 hR
    obtain ⟨L, j, r, rfl, hI⟩ := hrel
    have hle := hI.2.1
    rw [hsz] at hle
    obtain ⟨t1, t2⟩ := HTH.out _ (grown_n0 hI.2.2.2.2 hn₀ hRl)
    by_cases h0 : r.size = 0
    case pos =>
      have he : r.toList.isEmpty = true := isEmpty_iff.2 h0
      have HI := hide hI
      obtain ⟨vb, vc, rfl⟩ := own_sl hI.2.2.2.1
      clear t1 t2 hI
      have CL := hide (clone_any r (by omega) wr)
      go_wp2_with fail
      refine Calls.mono CL.out ?_
      rintro e w2 ⟨rfl, b2⟩
      obtain ⟨i1, i2, i3, i4, i5⟩ := HI.out.below b2
      clear b2 CL HI
      have k0 := i3.c0
      have f0 := i3.f0 (j := 0)
      have I1 := hide i1
      have I2 := hide (i3.set0 r)
      have I3 := hide (own_set (j := 0) i3 i4 (.string r))
      have I4 := hide (grown_set (j := 0) i5 (.string r))
      rw [hsz] at i2
      clear i1 i3 i4 i5
      go_wp2_with fail
      go_ret2
      exact ⟨_, L, j, r, rfl, I1.out, Or.inl h0, i2, I2.out, I3.out, I4.out⟩
    case neg =>
      have he := emp_no h0
      have MB := hide (mayBegin_any r wr)
      have HI := hide hI
      obtain ⟨vb, vc, rfl⟩ := own_sl hI.2.2.2.1
      clear t1 t2 hI
      go_wp2_with fail
      refine Calls.mono MB.out ?_
      rintro e w1 ⟨rfl, b1⟩
      replace HI := hide (HI.out.below b1)
      clear b1 MB
      cases hm : mayP r
      case true =>
        have HM := hide hm
        clear hm
        have CL := hide (clone_any r (by omega) w1)
        go_wp2_with fail
        refine Calls.mono CL.out ?_
        rintro e w2 ⟨rfl, b2⟩
        obtain ⟨i1, i2, i3, i4, i5⟩ := HI.out.below b2
        clear b2 CL HI
        have k0 := i3.c0
        have f0 := i3.f0 (j := 0)
        have I1 := hide i1
        have I2 := hide (i3.set0 r)
        have I3 := hide (own_set (j := 0) i3 i4 (.string r))
        have I4 := hide (grown_set (j := 0) i5 (.string r))
        rw [hsz] at i2
        clear i1 i3 i4 i5
        go_wp2_with fail
        go_ret2
        exact ⟨_, L, j, r, rfl, I1.out, Or.inr HM.out, i2, I2.out, I3.out, I4.out⟩
      case false =>
        have HM := hide hm
        clear hm
        obtain ⟨t1, t2⟩ := HTH.out _ (grown_n0 HI.out.2.2.2.2 hn₀ hRl)
        have FI := first_any r w1 t1 t2
        clear t1 t2
        cases hnx : firstP r with
        | none =>
          rw [firV_none hnx] at FI
          have FI := hide FI
          have HN := hide hnx
          clear hnx
          go_wp2_with fail
          refine Calls.mono FI.out ?_
          rintro e w2 ⟨rfl, b2⟩
          obtain ⟨WX, eX, _, bX1, bX⟩ := laid_new b2 (mm0 0)
          have IX := hide (HI.out.below bX)
          clear b2 bX1 bX FI HI
          go_upto_region 7 with (refine wpList_storeMsg rfl (.tmp 8) (.tmp 28) rfl w2.heap.size rfl (mm0 0) (mm0 0) rfl (heap_last _ _) ?_)
          rw [← eX]
          clear eX
          obtain ⟨i1, i2, i3, i4, i5⟩ := IX.out
          have h1 : 1 ≤ r.size := by omega
          have h1i : (1 : Int) ≤ (r.size : Int) := by omega
          obtain ⟨kj, hkj⟩ : ∃ kj, k + j = kj := ⟨_, rfl⟩
          have hkl : kj ≤ 2000000000000000 := by omega
          rw [hkj] at i3
          have k1 := i3.c1
          have f1 := i3.f0 (j := 1)
          have NX : Hid (FdInv R h (h ++ s) k w L (j + 1) (r.extract 1 r.size) (.slice vb L.length vc) (WX.setCell ⟨R, 1, none⟩ (.int .i64 ((kj : Int) + 1)))) := ⟨i1.skip h0 HM.out HN.out, by rw [ByteArray.size_extract, hsz]; omega, by
            have := i3.set1 ((kj : Int) + 1)
            rw [show ((k + (j + 1) : Nat) : Int) = (kj : Int) + 1 by omega]; exact this, own_set (j := 1) i3 i4 _, grown_set (j := 1) i5 _⟩
          clear i1 i2 i3 i4 i5 IX hkj
          go_wp2_with fail
          go_roundw
          case rel => exact ⟨L, j + 1, r.extract 1 r.size, rfl, NX.out⟩
          case measure => show (r.extract 1 r.size).size < r.size; rw [ByteArray.size_extract]; omega
        | some y =>
          obtain ⟨n, m⟩ := y
          obtain ⟨n24, nle, n44, _⟩ := firstP_size hnx
          rw [firV_some hnx] at FI
          have FI := hide FI
          have HN := hide hnx
          have hn0 : ((n : Int) == 0) = false := by simp; omega
          have hni : (n : Int) ≤ (r.size : Int) := by omega
          have hni2 : ¬ (r.size : Int) < (n : Int) := by omega
          obtain ⟨hm1, hm2⟩ := msg_room (k := L.length) (by omega)
          obtain ⟨i0, hi0, hz0, hz1, hz2⟩ := info_partsF infoMg
          clear hnx
          go_wp2_with fail
          refine Calls.mono FI.out ?_
          rintro e w2 ⟨rfl, b2⟩
          obtain ⟨WX, eX, hX, bX1, bX⟩ := laid_new b2 m
          have IX := hide (HI.out.below bX)
          clear b2 bX1 bX FI HI
          go_upto_region 7 with (refine wpList_storeMsg rfl (.tmp 8) (.tmp 28) rfl w2.heap.size rfl m (mm0 0) rfl (heap_last _ _) ?_)
          rw [← eX]
          clear eX
          have s1 : w.heap.size ≤ WX.heap.size := IX.out.2.2.2.2.size
          go_wp2_with (first | (refine wpList_loadMsg rfl (.tmp 8) rfl m w2.heap.size rfl hX ?_) | (refine wpList_bsMsg rfl (.tmp 42) rfl m rfl ?_) | (at_builtin; refine wpList_append_own_at _ rfl _ _ 31 rfl w.heap.size 27 i0 _ 11 104 Tryd.underlying31 hi0 hz0 hz1 hz2 rfl (by decide) _ _ _ rfl (IX.out.2.2.2.1.alloc _) ⟨WX.heap.size, 0, none⟩ 1 1 (mcs [m]) rfl (by rw [mcs_one]; rfl) (msg_cell WX m) (msgs_one _) hm1 hm2 (by simp; omega) ?_; intro v2 w3 o2 g2 n2 a2; clear n2 a2))
          refine ⟨⟨L ++ [m], j, r.extract n r.size, rfl, ?_⟩, ?_⟩
          · obtain ⟨i1, i2, i3, i4, i5⟩ := IX.out
            have bA : Below WX.heap.size WX (WX.alloc (.cells (msgV m) 27)) := (Below.refl _ _).alloc (Nat.le_refl _) _
            have nr := (i3.below bA).not_row (i4.alloc _)
            refine ⟨i1.tell HM.out HN.out, by rw [ByteArray.size_extract, List.length_append, hsz]; simp only [List.length_cons, List.length_nil]; omega, (g2.block R (blk_lt (i3.below bA)) nr).trans (i3.below bA), by rw [mcs_append, List.length_append]; exact o2, ?_⟩
            have g1 := grown_below i5 bA
            refine ⟨g2.os.trans g1.os, g2.tape.trans g1.tape, g2.output.trans g1.output, Nat.le_trans g1.size g2.size, fun i hi hn => (g2.block i (Nat.lt_of_lt_of_le hi g1.size) (fun e => ?_)).trans (g1.block i hi hn)⟩
            have := (i4.lt i e.symm).1
            omega
          · show (r.extract n r.size).size < r.size
            rw [ByteArray.size_extract]; omega
end Go.Proofs.YtgdjfocnaapooaaDoor
