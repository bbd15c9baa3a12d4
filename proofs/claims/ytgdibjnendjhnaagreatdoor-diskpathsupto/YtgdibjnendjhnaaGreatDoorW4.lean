import Derived.Test.YtgdibjnendjhnaaGreatDoorW3
import Derived.Test.YtgdibjnendjhnaaGreatDoorShelf
namespace Go.Proofs.YtgdibjnendjhnaaGreatDoor
open Go.RowKit
theorem hide {p : Prop} (h : p) : Hid p := h
/-- what strings.Split(s, "/") does, with the pieces xs -/
def SplitC (s : ByteArray) (w : World) (xs : List ByteArray) : Prop := Calls Tryz.prog 87 #[.string s, .string ⟨#[47]⟩] w fun e w' =>
      ∃ B, e = .returned (.slice (some ⟨B, 0, none⟩) xs.length xs.length) ∧ (∀ (j : Nat) x, xs[j]? = some x → w'.cell? ⟨B, j, none⟩ = some (.string x)) ∧ Below w.heap.size w w' ∧ w.heap.size ≤ B ∧ B < w'.heap.size
theorem split_call (s : ByteArray) (m : Int) (w : World) (hs : s.size ≤ 327) (hm : w.cell? ⟨0, 0, none⟩ = some (.int .i64 m)) :
    ∃ xs : List ByteArray, xs.map (·.data.toList) = pcs s.data.toList ∧ SplitC s w xs := by
  refine ⟨Lib.splitB ⟨#[47]⟩ 0 (Lib.countB s ⟨#[47]⟩) s, ?_, ?_⟩
  · rw [Lib.splitB_data]
    exact split_pcs s.data.toList
  · have hl : (Lib.splitB ⟨#[47]⟩ 0 (Lib.countB s ⟨#[47]⟩) s).length = Lib.countB s ⟨#[47]⟩ + 1 := Lib.splitB_all ⟨#[47]⟩ (by decide) 0 _ s rfl
    refine (Tryz.strings_Split s ⟨#[47]⟩ m w (by omega) hm (by decide)).mono ?_
    rintro e w' ⟨rfl, rfl⟩
    refine ⟨w.heap.size, by rw [hl], ?_, (Below.refl _ _).alloc (Nat.le_refl _) _, Nat.le_refl _, by simp⟩
    intro j x hx
    rw [World.cell?_alloc_new]
    simp [hx]
set_option maxHeartbeats 400000 in
set_option maxRecDepth 100000 in
theorem split_empty (s : ByteArray) (w : World) (h : s.toList.isEmpty = true) :
    Calls Tryz.prog 64 #[.string s] w fun e w' => e = .returned (.tuple #[.slice none 0 0, .bool true]) ∧ w' = w := by
  go_enter Tryz.func64, Tryz.ntmps64
  go_wp2
  go_ret2
  exact ⟨rfl, rfl⟩
set_option maxHeartbeats 400000 in
set_option maxRecDepth 100000 in
theorem split_long (s : ByteArray) (w : World) (h : s.toList.isEmpty = false) (h2 : 327 < s.size) :
    Calls Tryz.prog 64 #[.string s] w fun e w' => e = .returned (.tuple #[.slice none 0 0, .bool false]) ∧ w' = w := by
  go_enter Tryz.func64, Tryz.ntmps64
  go_wp2
  go_ret2
  exact ⟨rfl, rfl⟩
set_option maxHeartbeats 400000 in
set_option maxRecDepth 100000 in
theorem split_many (s : ByteArray) (w : World) (xs : List ByteArray) (h : s.toList.isEmpty = false) (h2 : s.size ≤ 327) (hc : SplitC s w xs) (h8 : 8 < xs.length) :
    Calls Tryz.prog 64 #[.string s] w fun e w' => e = .returned (.tuple #[.slice none 0 0, .bool false]) ∧ Below w.heap.size w w' := by
  go_enter Tryz.func64, Tryz.ntmps64
  go_wp2_with (go_at_call 87; refine Calls.mono hc ?_; rintro e w' ⟨B, rfl, hcell, hb, h3, h4⟩)
  go_ret2
  exact ⟨rfl, hb⟩
set_option maxHeartbeats 400000 in
set_option maxRecDepth 100000 in
theorem split_loop (s : ByteArray) (w : World) (xs : List ByteArray) (h : s.toList.isEmpty = false) (h2 : s.size ≤ 327) (hc : SplitC s w xs) (h8 : xs.length ≤ 8) :
    Calls Tryz.prog 64 #[.string s] w fun e w' => Below w.heap.size w w' ∧ ((e = .returned (.tuple #[.slice none 0 0, .bool false]) ∧ ∃ x, x ∈ xs ∧ nm x.data.toList = false) ∨
      (∃ B, e = .returned (.tuple #[.slice (some ⟨B, 0, none⟩) xs.length xs.length, .bool true]) ∧ (∀ (j : Nat) x, xs[j]? = some x → w'.cell? ⟨B, j, none⟩ = some (.string x)) ∧ w.heap.size ≤ B ∧ B < w'.heap.size ∧ ∀ x, x ∈ xs → nm x.data.toList = true)) := by
  go_enter Tryz.func64, Tryz.ntmps64
  go_wp2_with (go_at_call 87; refine Calls.mono hc ?_; rintro e w1 ⟨B, rfl, hcell, hb, h3, h4⟩)
  have HC : Hid (∀ (j : Nat) x, xs[j]? = some x → w1.cell? ⟨B, j, none⟩ = some (.string x)) := hcell
  clear hcell hc h h2
  go_loop [19] (fun i => ∃ k : Nat, k ≤ xs.length ∧ i = .int .i64 k ∧ ∀ x, x ∈ xs.take k → nm x.data.toList = true) (fun i => xs.length - (intOf i).toNat)
  case atStart => exact ⟨0, Nat.zero_le _, rfl, by simp⟩
  case round =>
    obtain ⟨k, hk, rfl, hall⟩ := hrel
    have HA : Hid (∀ x, x ∈ xs.take k → nm x.data.toList = true) := hall
    clear hall
    by_cases hlt : k < xs.length
    · have hck : w1.cell? ⟨B, k, none⟩ = some (.string xs[k]) := HC.out k _ (List.getElem?_eq_getElem hlt)
      generalize hX : xs[k] = X at hck
      have HX := hide hX
      clear hX
      go_wp2_with (go_at_call 88; refine (isName_any _ _).mono ?_; rintro e w' ⟨rfl, rfl⟩)
      · go_ret2
        refine ⟨hb, Or.inl ⟨rfl, xs[k], List.getElem_mem hlt, ?_⟩⟩
        rw [HX.out]
        simpa using (by assumption : (!nm X.data.toList) = true)
      · refine ⟨⟨k + 1, by omega, by go_num, ?_⟩, by simp [intOf]; omega⟩
        intro x hx
        rw [List.take_succ_eq_append_getElem hlt] at hx
        rcases List.mem_append.1 hx with hx | hx
        · exact HA.out x hx
        · rw [List.mem_singleton] at hx
          rw [hx, HX.out]
          simpa using (by assumption : (!nm X.data.toList) = false)
    · go_wp2
      go_ret2
      refine ⟨hb, Or.inr ⟨B, rfl, HC.out, h3, h4, ?_⟩⟩
      intro x hx
      exact HA.out x (by rw [List.take_of_length_le (by omega)]; exact hx)

/-- a slice of n texts -/
def Texts (lo : Nat) (w : World) (v : Value) (n : Nat) : Prop :=
  (n = 0 ∧ v = .slice none 0 0) ∨ ∃ B c, lo ≤ B ∧ 0 < n ∧ v = .slice (some ⟨B, 0, none⟩) n c ∧ n ≤ c ∧ B < w.heap.size ∧ ∀ j, j < n → ∃ x, w.cell? ⟨B, j, none⟩ = some (.string x)

theorem empty_iff (s : ByteArray) : s.toList.isEmpty = (s.data.toList == []) := by
  rw [ByteArray.toList_eq, Bool.eq_iff_iff]; simp

/-- split, whole: no path -/
theorem split_no (s : ByteArray) (m : Int) (w : World) (hm : w.cell? ⟨0, 0, none⟩ = some (.int .i64 m)) (hp : isPath s.data.toList = false) :
    Calls Tryz.prog 64 #[.string s] w fun e w' => e = .returned (.tuple #[.slice none 0 0, .bool false]) ∧ Below w.heap.size w w' := by
  unfold isPath at hp
  rw [Bool.or_eq_false_iff] at hp
  obtain ⟨h0, h1⟩ := hp
  have h : s.toList.isEmpty = false := by rw [empty_iff]; exact h0
  by_cases h2 : s.size ≤ 327
  · obtain ⟨xs, hx, hc⟩ := split_call s m w h2 hm
    have hl : (pcs s.data.toList).length = xs.length := by rw [← hx, List.length_map]
    by_cases h8 : xs.length ≤ 8
    · refine (split_loop s w xs h h2 hc h8).mono ?_
      rintro e w' ⟨hb, ⟨rfl, _⟩ | ⟨B, _, _, _, _, hall⟩⟩
      · exact ⟨rfl, hb⟩
      · exfalso
        rw [Bool.and_eq_false_iff] at h1
        rcases h1 with h1 | h1
        · rw [decide_eq_false_iff_not] at h1; omega
        · rw [← hx, List.all_eq_false] at h1
          obtain ⟨x, hm, hn⟩ := h1
          obtain ⟨y, hy, rfl⟩ := List.mem_map.1 hm
          rw [hall y hy] at hn
          exact hn rfl
    · exact split_many s w xs h h2 hc (by omega)
  · refine (split_long s w h (by omega)).mono ?_
    rintro e w' ⟨rfl, rfl⟩
    exact ⟨rfl, Below.refl _ _⟩

/-- split, whole: a path -/
theorem split_yes (s : ByteArray) (m : Int) (w : World) (hm : w.cell? ⟨0, 0, none⟩ = some (.int .i64 m)) (hp : isPath s.data.toList = true) :
    Calls Tryz.prog 64 #[.string s] w fun e w' => ∃ v, e = .returned (.tuple #[v, .bool true]) ∧ Texts w.heap.size w' v (nNames s.data.toList) ∧ Below w.heap.size w w' := by
  have hlen := isPath_len _ hp
  have h2 : s.size ≤ 327 := by simpa using hlen
  by_cases h0 : s.data.toList = []
  · refine (split_empty s w (by rw [empty_iff, h0]; rfl)).mono ?_
    rintro e w' ⟨rfl, rfl⟩
    exact ⟨_, rfl, Or.inl ⟨by simp [nNames, h0], rfl⟩, Below.refl _ _⟩
  · have h : s.toList.isEmpty = false := by rw [empty_iff]; simpa using h0
    have h0' : (s.data.toList == []) = false := by simpa using h0
    unfold isPath at hp
    rw [h0', Bool.false_or, Bool.and_eq_true, decide_eq_true_eq, List.all_eq_true] at hp
    obtain ⟨xs, hx, hc⟩ := split_call s m w h2 hm
    have hl : (pcs s.data.toList).length = xs.length := by rw [← hx, List.length_map]
    refine (split_loop s w xs h h2 hc (by omega)).mono ?_
    rintro e w' ⟨hb, ⟨_, x, hm, hn⟩ | ⟨B, rfl, hcell, hB, hB2, hall⟩⟩
    · exfalso
      have := hp.2 x.data.toList (by rw [← hx]; exact List.mem_map.2 ⟨x, hm, rfl⟩)
      rw [this] at hn
      simp at hn
    · have hnn : nNames s.data.toList = xs.length := by unfold nNames; rw [if_neg h0, hl]
      have := pcs_pos s.data.toList
      refine ⟨_, rfl, Or.inr ⟨B, xs.length, hB, by omega, by rw [hnn], by omega, hB2, ?_⟩, hb⟩
      intro j hj
      exact ⟨xs[j]'(by omega), hcell j _ (List.getElem?_eq_getElem (by omega))⟩
end Go.Proofs.YtgdibjnendjhnaaGreatDoor
