import Derived.Test.YtgdibjnendjhnaaGreatDoorW20
import Derived.Test.YtgdibjnendjhnaaGreatDoorW19
namespace Go.Proofs.YtgdibjnendjhnaaGreatDoor
open Go.RowKit
def kOf (l : List UInt8) : Int := if l = [] then 1 else 0
def eOf (l : List UInt8) : Int := if l = [] then 0 else if isPath l = true then 12 else 11
def rOf (l : List UInt8) : Int := if l = [] then 11 else if isPath l = true then 12 else 11
def mOf (l : List UInt8) : Int := if l = [] then 13 else if isPath l = true then (if nNames l = 1 then 0 else 12) else 11
theorem empty_true {s : ByteArray} (h : s.data.toList = []) : s.toList.isEmpty = true := by rw [empty_iff, h]; rfl
theorem nn_pos {l : List UInt8} (h : l ≠ []) : 1 ≤ nNames l := by unfold nNames; rw [if_neg h]; exact pcs_pos l
theorem okind_any (b m n p : Nat) (s : ByteArray) (w : World) (h : OwnAt w b m n p) :
    Calls Tryz.prog 18 #[.pointer (some ⟨b, 0, none⟩), .string s] w fun e w' => e = .returned (.tuple #[.int .i64 (kOf s.data.toList), .int .i64 (eOf s.data.toList)]) ∧ Below w.heap.size w w' := by
  unfold kOf eOf
  by_cases h0 : s.data.toList = []
  · rw [if_pos h0, if_pos h0]; exact kind_root b m n p s w h h0
  · rw [if_neg h0, if_neg h0]
    cases hp : isPath s.data.toList
    · rw [if_neg (by simp)]; exact kind_no b m n p s w h hp
    · rw [if_pos rfl]
      by_cases h1 : nNames s.data.toList = 1
      · exact kind_one b m n p s w h hp h1
      · exact kind_deep b m n p s w h _ hp rfl (by have := nn_pos h0; omega) (isPath_n8 hp)
theorem rkind_any (r t c : Nat) (s : ByteArray) (w : World) (h : RefAt w r t c) (h62 : s.size ≤ 4611686018427387904) :
    Calls Tryz.prog 19 #[.pointer (some ⟨r, 0, none⟩), .string s] w fun e w' => e = .returned (.tuple #[.int .i64 (kOf s.data.toList), .int .i64 (eOf s.data.toList)]) ∧ Below w.heap.size w w' := by
  unfold kOf eOf
  by_cases h0 : s.data.toList = []
  · rw [if_pos h0, if_pos h0]; exact rkind_root r t c s w h (empty_true h0)
  · rw [if_neg h0, if_neg h0]
    cases hp : isPath s.data.toList
    · rw [if_neg (by simp)]; exact rkind_no r t c s w h h62 hp
    · rw [if_pos rfl]
      by_cases h1 : nNames s.data.toList = 1
      · exact rkind_one r t c s w h h62 hp h1
      · exact rkind_deep r t c s w h _ h62 hp rfl (by have := nn_pos h0; omega) (isPath_n8 hp)
theorem oremove_any (b m n p : Nat) (s : ByteArray) (w : World) (h : OwnAt w b m n p) :
    Calls Tryz.prog 36 #[.pointer (some ⟨b, 0, none⟩), .string s] w fun e w' => e = .returned (.int .i64 (rOf s.data.toList)) ∧ Below w.heap.size w w' := by
  unfold rOf
  by_cases h0 : s.data.toList = []
  · rw [if_pos h0]; exact (remove_root b m n p s w h (empty_true h0)).mono fun e w' hh => ⟨hh.1, by rw [hh.2]; exact Below.refl _ _⟩
  · rw [if_neg h0]
    cases hp : isPath s.data.toList
    · rw [if_neg (by simp)]; exact remove_no b m n p s w h hp (empty_false h0)
    · rw [if_pos rfl]
      by_cases h1 : nNames s.data.toList = 1
      · exact remove_one b m n p s w h hp h1 (empty_false h0)
      · exact remove_deep b m n p s w h _ hp rfl (by have := nn_pos h0; omega) (isPath_n8 hp) (empty_false h0)
theorem rremove_any (r t c : Nat) (s : ByteArray) (w : World) (h : RefAt w r t c) (h62 : s.size ≤ 4611686018427387904) :
    Calls Tryz.prog 37 #[.pointer (some ⟨r, 0, none⟩), .string s] w fun e w' => e = .returned (.int .i64 (rOf s.data.toList)) ∧ Below w.heap.size w w' := by
  unfold rOf
  by_cases h0 : s.data.toList = []
  · rw [if_pos h0]; exact rremove_root r t c s w h (empty_true h0)
  · rw [if_neg h0]
    cases hp : isPath s.data.toList
    · rw [if_neg (by simp)]; exact rremove_no r t c s w h h62 hp
    · rw [if_pos rfl]
      by_cases h1 : nNames s.data.toList = 1
      · exact rremove_one r t c s w h h62 hp h1
      · exact rremove_deep r t c s w h _ h62 hp rfl (by have := nn_pos h0; omega) (isPath_n8 hp)
set_option maxHeartbeats 2000000 in
set_option maxRecDepth 100000 in
theorem enter_one (b m n p : Nat) (s : ByteArray) (w : World) (h : OwnW w b m n p) (hp : isPath s.data.toList = true) (hn : nNames s.data.toList = 1) :
    Calls Tryz.prog 58 #[.pointer (some ⟨b, 0, none⟩), .string s, .int .i64 1] w fun e w' => e = .returned (.int .i64 0) ∧ Keeps (fun k => k = b ∨ k = m ∨ k = p) w w' := by
  have HL := hide (look_one b m n p s w h.at0 hp hn)
  have HW := hide h
  clear h hp hn
  go_enter Tryz.func58, Tryz.ntmps58
  go_wp2_with fail
  refine Calls.mono HL.out ?_
  rintro e w1 ⟨x, rfl, hb1⟩
  have h1 := HW.out.later hb1
  have d7 := h1.c7
  have hlt := h1.at0.lt
  have HC : Hid (∀ W, Below w1.heap.size w1 W → Calls Tryz.prog 60 #[.pointer (some ⟨b, 0, none⟩), .agg #[.int .i64 0, .int .i64 0, .int .i64 3, .string ⟨#[]⟩, .int .i64 0, .string ⟨#[]⟩, .string x, .int .i64 1, .int .i64 1, .int .i64 0, .int .i64 0], .int .i64 0] W fun e w' => e = .returned (.int .i64 0) ∧ Keeps (fun k => k = b ∨ k = m ∨ k = p) W w' ∧ (w'.cell? ⟨b, 7, none⟩).isSome = true ∧ w'.frozen? ⟨b, 7, none⟩ = false) := fun W hb => change_ok b m n p 1 1 x W (h1.later hb)
  have H1 := hide h1
  clear h1
  go_wp2_with fail
  refine Calls.mono (HC.out _ ?_) ?_
  · repeat (first | exact Below.refl _ _ | refine alloc_below ?_ _)
  rintro e w2 ⟨rfl, hk2, i7, j7⟩
  obtain ⟨u7, hu7⟩ := Option.isSome_iff_exists.1 i7
  clear i7
  have hmlt : m < w1.heap.size := by obtain ⟨c, hc⟩ := H1.out.at0.hm; exact lt_of_map hc
  have hplt : p < w1.heap.size := by obtain ⟨c, hc⟩ := H1.out.hp; exact lt_of_map hc
  have e0 : w2.cell? ⟨w1.heap.size + 1 + 1, 0, none⟩ = some (.int .i64 1) := by
    rw [hk2.cell (p := ⟨w1.heap.size + 1 + 1, 0, none⟩) (by simp) (by show ¬ (w1.heap.size + 1 + 1 = b ∨ w1.heap.size + 1 + 1 = m ∨ w1.heap.size + 1 + 1 = p); omega)]
    simp [go_sem]
  have hK : Keeps (fun k => k = b ∨ k = m ∨ k = p) w w2 := by
    refine Keeps.trans ?_ hk2
    refine Keeps.trans (Keeps.of_below hb1) ?_
    repeat (first | exact Keeps.refl _ _ | refine Keeps.alloc ?_ _)
  have HK := hide hK
  clear hK hk2
  go_wp2
  go_ret
  exact ⟨rfl, HK.out.setCellB (Or.inl rfl) _ _⟩
theorem oenter_any (b m n p : Nat) (s : ByteArray) (w : World) (h : OwnW w b m n p) :
    Calls Tryz.prog 58 #[.pointer (some ⟨b, 0, none⟩), .string s, .int .i64 1] w fun e w' => e = .returned (.int .i64 (mOf s.data.toList)) ∧ Keeps (fun k => k = b ∨ k = m ∨ k = p) w w' := by
  unfold mOf
  by_cases h0 : s.data.toList = []
  · rw [if_pos h0]; exact (enter_root b m n p s w h.at0 h0 1).mono fun e w' hh => ⟨hh.1, Keeps.of_below hh.2⟩
  · rw [if_neg h0]
    cases hp : isPath s.data.toList
    · rw [if_neg (by simp)]; exact (enter_no b m n p s w h.at0 hp 1).mono fun e w' hh => ⟨hh.1, Keeps.of_below hh.2⟩
    · rw [if_pos rfl]
      by_cases h1 : nNames s.data.toList = 1
      · rw [if_pos h1]; exact enter_one b m n p s w h hp h1
      · rw [if_neg h1]; exact (enter_deep b m n p s w h.at0 _ hp rfl (by have := nn_pos h0; omega) (isPath_n8 hp) 1).mono fun e w' hh => ⟨hh.1, Keeps.of_below hh.2⟩
theorem rmake_any (B r t c : Nat) (s : ByteArray) (w : World) (h : RefW w B r t c) (hBw : B ≤ w.heap.size) (h62 : s.size ≤ 4611686018427387904) :
    Calls Tryz.prog 59 #[.pointer (some ⟨r, 0, none⟩), .string s, .int .i64 1] w fun e w' => e = .returned (.int .i64 (mOf s.data.toList)) ∧ Below B w w' := by
  unfold mOf
  by_cases h0 : s.data.toList = []
  · rw [if_pos h0]; exact (make_root r t c s 1 w h.at0 (empty_true h0)).mono fun e w' hh => ⟨hh.1, hh.2.mono hBw⟩
  · rw [if_neg h0]
    cases hp : isPath s.data.toList
    · rw [if_neg (by simp)]; exact (make_no r t c s 1 w h.at0 h62 hp).mono fun e w' hh => ⟨hh.1, hh.2.mono hBw⟩
    · rw [if_pos rfl]
      by_cases h1 : nNames s.data.toList = 1
      · rw [if_pos h1]; exact make_one B r t c s w h hBw h62 hp h1
      · rw [if_neg h1]; exact (make_deep r t c s 1 w h.at0 _ h62 hp rfl (by have := nn_pos h0; omega) (isPath_n8 hp)).mono fun e w' hh => ⟨hh.1, hh.2.mono hBw⟩
set_option maxHeartbeats 400000 in
set_option maxRecDepth 100000 in
theorem omkdir_any (b m n p : Nat) (s : ByteArray) (w : World) (h : OwnW w b m n p) :
    Calls Tryz.prog 26 #[.pointer (some ⟨b, 0, none⟩), .string s] w fun e w' => e = .returned (.int .i64 (mOf s.data.toList)) ∧ Keeps (fun k => k = b ∨ k = m ∨ k = p) w w' := by
  have HE := hide (oenter_any b m n p s w h)
  clear h
  go_enter Tryz.func26, Tryz.ntmps26
  go_wp2_with (go_at_call 58; refine Calls.mono HE.out ?_; rintro e w1 ⟨rfl, hk⟩)
  go_ret
  exact ⟨rfl, hk⟩
set_option maxHeartbeats 400000 in
set_option maxRecDepth 100000 in
theorem rmkdir_any (B r t c : Nat) (s : ByteArray) (w : World) (h : RefW w B r t c) (hBw : B ≤ w.heap.size) (h62 : s.size ≤ 4611686018427387904) :
    Calls Tryz.prog 27 #[.pointer (some ⟨r, 0, none⟩), .string s] w fun e w' => e = .returned (.int .i64 (mOf s.data.toList)) ∧ Below B w w' := by
  have HE := hide (rmake_any B r t c s w h hBw h62)
  clear h hBw h62
  go_enter Tryz.func27, Tryz.ntmps27
  go_wp2_with (go_at_call 59; refine Calls.mono HE.out ?_; rintro e w1 ⟨rfl, hk⟩)
  go_ret
  exact ⟨rfl, hk⟩
end Go.Proofs.YtgdibjnendjhnaaGreatDoor
