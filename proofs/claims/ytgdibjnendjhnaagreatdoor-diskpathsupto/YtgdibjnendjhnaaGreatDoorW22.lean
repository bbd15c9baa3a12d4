import Derived.Test.YtgdibjnendjhnaaGreatDoorW21
namespace Go.Proofs.YtgdibjnendjhnaaGreatDoor
open Go.RowKit
theorem place_zero' (w : World) : Calls Tryz.prog 13 #[.int .i64 0] w fun e w' => e = .returned (.int .i64 0) ∧ w = w' := (place_zero w).mono fun _ _ h => ⟨h.1, h.2.symm⟩
set_option maxHeartbeats 2000000 in
set_option maxRecDepth 100000 in
theorem looks_kind (bb b m n p r t c : Nat) (s : ByteArray) (w : World) (h0 : w.cell? ⟨bb, 0, none⟩ = some (.pointer (some ⟨b, 0, none⟩))) (h2 : w.cell? ⟨bb, 2, none⟩ = some (.pointer (some ⟨r, 0, none⟩))) (hlt : bb < w.heap.size)
    (hO : OwnAt w b m n p) (hR : RefAt w r t c) (h62 : s.size ≤ 4611686018427387904) :
    Calls Tryz.prog 7 #[.pointer (some ⟨bb, 0, none⟩), .agg #[.int .i64 11, .int .i64 0, .int .i64 0, .int .i64 0, .string s, .string ⟨#[]⟩]] w fun e w' => e = .returned (.bool true) ∧ Below w.heap.size w w' := by
  have HO : Hid (∀ W, Below w.heap.size w W → Calls Tryz.prog 18 #[.pointer (some ⟨b, 0, none⟩), .string s] W fun e w' => e = .returned (.tuple #[.int .i64 (kOf s.data.toList), .int .i64 (eOf s.data.toList)]) ∧ Below W.heap.size W w') := fun W hb => okind_any b m n p s W (hO.later hb)
  have HR : Hid (∀ W, Below w.heap.size w W → Calls Tryz.prog 19 #[.pointer (some ⟨r, 0, none⟩), .string s] W fun e w' => e = .returned (.tuple #[.int .i64 (kOf s.data.toList), .int .i64 (eOf s.data.toList)]) ∧ Below W.heap.size W w') := fun W hb => rkind_any r t c s W (hR.later hb) h62
  generalize kOf s.data.toList = K at HO HR
  generalize eOf s.data.toList = E at HO HR
  have hK : (K == K) = true := by simp
  have hE : (E == E) = true := by simp
  clear hO hR h62
  go_enter Tryz.func7, Tryz.ntmps7
  go_wp2
  go_region_with (go_at_call 13; refine Calls.mono (place_zero' _) ?_; rintro e w' ⟨rfl, rfl⟩)
  go_wp2
  go_region_with (go_at_call 13; refine Calls.mono (place_zero' _) ?_; rintro e w' ⟨rfl, rfl⟩)
  go_wp2_with fail
  refine Calls.mono (HO.out _ (by repeat (first | exact Below.refl _ _ | refine Below.drew ?_ | refine alloc_below ?_ _))) ?_
  rintro e w1 ⟨rfl, hb1⟩
  have hbw : Below w.heap.size w w1 := Below.trans (b := _) (by repeat (first | exact Below.refl _ _ | refine Below.drew ?_ | refine alloc_below ?_ _)) (hb1.mono (by show w.heap.size ≤ (World.alloc _ _).heap.size; simp))
  have e4 : w1.cell? ⟨w.heap.size, 4, none⟩ = some (.string s) := by
    rw [hb1.cell (p := ⟨w.heap.size, 4, none⟩) (by show w.heap.size < (World.alloc _ _).heap.size; simp)]
    simp [go_sem]
  have HBW := hide hbw
  clear hbw hb1
  go_wp2_with fail
  refine Calls.mono (HR.out _ HBW.out) ?_
  rintro e w2 ⟨rfl, hb2⟩
  go_wp2_with (go_at_call 12; refine Calls.mono (num_any _ _) ?_; rintro e w3 ⟨rfl, rfl⟩)
  go_ret
  exact ⟨rfl, HBW.out.trans (hb2.mono HBW.out.size)⟩
set_option maxHeartbeats 2000000 in
set_option maxRecDepth 100000 in
theorem writes_remove (bb b m n p r t c : Nat) (s : ByteArray) (w : World) (h0 : w.cell? ⟨bb, 0, none⟩ = some (.pointer (some ⟨b, 0, none⟩))) (h2 : w.cell? ⟨bb, 2, none⟩ = some (.pointer (some ⟨r, 0, none⟩))) (hlt : bb < w.heap.size)
    (hO : OwnAt w b m n p) (hR : RefAt w r t c) (h62 : s.size ≤ 4611686018427387904) :
    Calls Tryz.prog 8 #[.pointer (some ⟨bb, 0, none⟩), .agg #[.int .i64 6, .int .i64 0, .int .i64 0, .int .i64 0, .string s, .string ⟨#[]⟩]] w fun e w' => e = .returned (.bool true) ∧ Below w.heap.size w w' := by
  have HO : Hid (∀ W, Below w.heap.size w W → Calls Tryz.prog 36 #[.pointer (some ⟨b, 0, none⟩), .string s] W fun e w' => e = .returned (.int .i64 (rOf s.data.toList)) ∧ Below W.heap.size W w') := fun W hb => oremove_any b m n p s W (hO.later hb)
  have HR : Hid (∀ W, Below w.heap.size w W → Calls Tryz.prog 37 #[.pointer (some ⟨r, 0, none⟩), .string s] W fun e w' => e = .returned (.int .i64 (rOf s.data.toList)) ∧ Below W.heap.size W w') := fun W hb => rremove_any r t c s W (hR.later hb) h62
  generalize rOf s.data.toList = E at HO HR
  have hE : (E == E) = true := by simp
  clear hO hR h62
  go_enter Tryz.func8, Tryz.ntmps8
  go_wp2
  go_region_with (go_at_call 13; refine Calls.mono (place_zero' _) ?_; rintro e w' ⟨rfl, rfl⟩)
  go_wp2
  go_region_with (go_at_call 13; refine Calls.mono (place_zero' _) ?_; rintro e w' ⟨rfl, rfl⟩)
  go_wp2_with fail
  refine Calls.mono (HO.out _ (by repeat (first | exact Below.refl _ _ | refine Below.drew ?_ | refine alloc_below ?_ _))) ?_
  rintro e w1 ⟨rfl, hb1⟩
  have hbw : Below w.heap.size w w1 := Below.trans (b := _) (by repeat (first | exact Below.refl _ _ | refine Below.drew ?_ | refine alloc_below ?_ _)) (hb1.mono (by show w.heap.size ≤ (World.alloc _ _).heap.size; simp))
  have e4 : w1.cell? ⟨w.heap.size, 4, none⟩ = some (.string s) := by
    rw [hb1.cell (p := ⟨w.heap.size, 4, none⟩) (by show w.heap.size < (World.alloc _ _).heap.size; simp)]
    simp [go_sem]
  have HBW := hide hbw
  clear hbw hb1
  go_wp2_with fail
  refine Calls.mono (HR.out _ HBW.out) ?_
  rintro e w2 ⟨rfl, hb2⟩
  go_wp2_with (go_at_call 12; refine Calls.mono (num_any _ _) ?_; rintro e w3 ⟨rfl, rfl⟩)
  go_ret
  exact ⟨rfl, HBW.out.trans (hb2.mono HBW.out.size)⟩
set_option maxHeartbeats 2000000 in
set_option maxRecDepth 100000 in
theorem writes_mkdir (B bb b m n p r t c : Nat) (s : ByteArray) (w : World) (h0 : w.cell? ⟨bb, 0, none⟩ = some (.pointer (some ⟨b, 0, none⟩))) (h2 : w.cell? ⟨bb, 2, none⟩ = some (.pointer (some ⟨r, 0, none⟩))) (hlt : bb < w.heap.size)
    (hO : OwnW w b m n p) (hR : RefW w B r t c) (hBw : B ≤ w.heap.size) (hBb : B ≤ b) (hBm : B ≤ m) (hBp : B ≤ p) (hr : r ≠ b ∧ r ≠ m ∧ r ≠ p) (ht : t ≠ b ∧ t ≠ m ∧ t ≠ p) (h62 : s.size ≤ 4611686018427387904) :
    Calls Tryz.prog 8 #[.pointer (some ⟨bb, 0, none⟩), .agg #[.int .i64 1, .int .i64 0, .int .i64 0, .int .i64 0, .string s, .string ⟨#[]⟩]] w fun e w' => e = .returned (.bool true) ∧ Below B w w' := by
  have HO : Hid (∀ W, Below w.heap.size w W → Calls Tryz.prog 26 #[.pointer (some ⟨b, 0, none⟩), .string s] W fun e w' => e = .returned (.int .i64 (mOf s.data.toList)) ∧ Keeps (fun k => k = b ∨ k = m ∨ k = p) W w') := fun W hb => omkdir_any b m n p s W (hO.later hb)
  have HR : Hid (∀ W, Keeps (fun k => k = b ∨ k = m ∨ k = p) w W → Calls Tryz.prog 27 #[.pointer (some ⟨r, 0, none⟩), .string s] W fun e w' => e = .returned (.int .i64 (mOf s.data.toList)) ∧ Below B W w') := fun W hk => rmkdir_any B r t c s W (hR.keeps hk (by omega) (by omega)) (Nat.le_trans hBw hk.size) h62
  have hbl : b < w.heap.size := hO.at0.lt
  have hml : m < w.heap.size := by obtain ⟨c, hc⟩ := hO.at0.hm; exact lt_of_map hc
  have hpl : p < w.heap.size := by obtain ⟨c, hc⟩ := hO.hp; exact lt_of_map hc
  generalize mOf s.data.toList = E at HO HR
  have hE : (E == E) = true := by simp
  clear hO hR h62 hr ht
  go_enter Tryz.func8, Tryz.ntmps8
  go_wp2
  go_region_with (go_at_call 13; refine Calls.mono (place_zero' _) ?_; rintro e w' ⟨rfl, rfl⟩)
  go_wp2
  go_region_with (go_at_call 13; refine Calls.mono (place_zero' _) ?_; rintro e w' ⟨rfl, rfl⟩)
  go_wp2_with fail
  refine Calls.mono (HO.out _ (by repeat (first | exact Below.refl _ _ | refine Below.drew ?_ | refine alloc_below ?_ _))) ?_
  rintro e w1 ⟨rfl, hk1⟩
  have hkw : Keeps (fun k => k = b ∨ k = m ∨ k = p) w w1 := Keeps.trans (b := _) (by repeat (first | exact Keeps.refl _ _ | refine Keeps.drew ?_ | refine Keeps.alloc ?_ _)) hk1
  have e4 : w1.cell? ⟨w.heap.size, 4, none⟩ = some (.string s) := by
    rw [hk1.cell (p := ⟨w.heap.size, 4, none⟩) (by show w.heap.size < (World.alloc _ _).heap.size; simp) (by show ¬ (w.heap.size = b ∨ w.heap.size = m ∨ w.heap.size = p); omega)]
    simp [go_sem]
  have HKW := hide hkw
  clear hkw hk1
  go_wp2_with fail
  refine Calls.mono (HR.out _ HKW.out) ?_
  rintro e w2 ⟨rfl, hb2⟩
  go_wp2_with (go_at_call 12; refine Calls.mono (num_any _ _) ?_; rintro e w3 ⟨rfl, rfl⟩)
  go_ret
  exact ⟨rfl, (HKW.out.below hBw (fun k e => by omega)).trans hb2⟩
end Go.Proofs.YtgdibjnendjhnaaGreatDoor
