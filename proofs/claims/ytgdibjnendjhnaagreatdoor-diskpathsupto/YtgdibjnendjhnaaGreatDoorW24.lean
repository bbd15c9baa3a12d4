import Derived.Test.YtgdibjnendjhnaaGreatDoorW23
namespace Go.Proofs.YtgdibjnendjhnaaGreatDoor
open Go.RowKit
set_option maxHeartbeats 8000000 in
set_option maxRecDepth 100000 in
theorem paths_none (ao : Option Addr) (c : Nat) (w : World) (hg : ∃ k : Int, w.cell? ⟨0, 0, none⟩ = some (.int .i64 k)) (hw0 : 0 < w.heap.size) :
    Calls Tryz.prog 3 #[.slice ao 0 c] w fun e w' => e = .returned (.bool true) ∧ Below w.heap.size w w' := by
  have HG := hide hg
  clear hg
  have hPl : (ByteArray.mk #[]).size ≤ 4611686018427387904 := by decide
  have hPP : ((ByteArray.mk #[]).toList == (ByteArray.mk #[]).toList) = true := by simp
  have HP : Hid (∀ a c w, Calls Tryz.prog 4 #[.slice a 0 c] w fun e w' => e = .returned (.string ⟨#[]⟩) ∧ w = w') := fun a c w => (opath_none a c w).mono fun _ _ h => ⟨h.1, h.2.symm⟩
  have HR : Hid (∀ a c w, Calls Tryz.prog 5 #[.slice a 0 c] w fun e w' => e = .returned (.string ⟨#[]⟩) ∧ w = w') := fun a c w => (rpath_none a c w).mono fun _ _ h => ⟨h.1, h.2.symm⟩
  have HNT := hide (Below.refl w.heap.size w)
  go_enter Tryz.func3, Tryz.ntmps3
  go_wp2
  refine wp_loop_rounds 1 ?_
  rw [rounds_succ]
  go_wp2_with fail
  refine Calls.mono (HP.out _ _ _) ?_
  rintro e w' ⟨rfl, rfl⟩
  go_wp2_with fail
  refine Calls.mono (HR.out _ _ _) ?_
  rintro e w' ⟨rfl, rfl⟩
  go_wp2_with fail
  refine wp_loop_rounds 1 ?_
  rw [rounds_succ]
  go_wp2_with fail
  refine wp_loop_rounds 1 ?_
  rw [rounds_succ]
  go_wp2_with fail
  refine Calls.mono (HP.out _ _ _) ?_
  rintro e w' ⟨rfl, rfl⟩
  go_wp2_with fail
  refine Calls.mono (HR.out _ _ _) ?_
  rintro e w' ⟨rfl, rfl⟩
  have hszT := HNT.out.size
  have HFR : Hid (∀ o0, Calls Tryz.prog 6 #[.pointer (some ⟨w.heap.size, 0, none⟩), .int .i64 0, .int .i64 0] (w.alloc (.cells #[.pointer none, .pointer none, .pointer none, .pointer none] o0)) fun e w' => e = .returned (.bool true) ∧ ∃ b m n p r t c, OwnW w' b m n p ∧ RefW w' w.heap.size r t c ∧ w'.cell? ⟨w.heap.size, 0, none⟩ = some (.pointer (some ⟨b, 0, none⟩)) ∧ w'.cell? ⟨w.heap.size, 2, none⟩ = some (.pointer (some ⟨r, 0, none⟩)) ∧
      w.heap.size ≤ b ∧ w.heap.size ≤ m ∧ w.heap.size ≤ p ∧ w.heap.size < w'.heap.size ∧ Below w.heap.size w w' ∧ (r ≠ b ∧ r ≠ m ∧ r ≠ p) ∧ (t ≠ b ∧ t ≠ m ∧ t ≠ p)) := fun o0 => by
    have hbl := alloc_below HNT.out (.cells #[.pointer none, .pointer none, .pointer none, .pointer none] o0)
    refine (fresh_ok w.heap.size (w.alloc (.cells #[.pointer none, .pointer none, .pointer none, .pointer none] o0)) ?_ (by simp) (by simp) (by simp) (by simp) (fun j => by simp [go_sem]) (by omega)).mono ?_
    · obtain ⟨k, hk⟩ := HG.out
      exact ⟨k, (hbl.cell (p := ⟨0, 0, none⟩) hw0).trans hk⟩
    · rintro e w' ⟨he, b, m, n, p, r, t, c, hO, hR, q0, q2, hb, hm, hp, hblk, hsz, h1, h2, h3, hr, ht⟩
      simp only [World.size_alloc] at hb hm hp hsz hR hblk
      refine ⟨he, b, m, n, p, r, t, c, hO, hR.mono (by omega), q0, q2, by omega, by omega, by omega, by omega, ?_, hr, ht⟩
      exact hbl.trans ⟨h1, h2, h3, by simp; omega, fun k hk => hblk k (by omega) (by omega)⟩
  go_wp2_with fail
  refine Calls.mono (HFR.out _) ?_
  rintro e w5 ⟨rfl, b, m, n, p, r, t, c5, hO, hR, q0, q2, hbb, hbm, hbp, hblt, hnx5, hrr, htt⟩
  have HK := hide (looks_kind w.heap.size b m n p r t c5 ⟨#[]⟩ w5 q0 q2 hblt hO.at0 hR.at0 hPl)
  have HO5 := hide hO
  have HR5 := hide hR
  have HN5 := hide hnx5
  clear hO hR hnx5 HFR
  go_wp2_with fail
  refine Calls.mono HK.out ?_
  rintro e w6 ⟨rfl, hb6⟩
  have q06 : w6.cell? ⟨w.heap.size, 0, none⟩ = some (.pointer (some ⟨b, 0, none⟩)) := (hb6.cell (p := ⟨w.heap.size, 0, none⟩) hblt).trans q0
  have q26 : w6.cell? ⟨w.heap.size, 2, none⟩ = some (.pointer (some ⟨r, 0, none⟩)) := (hb6.cell (p := ⟨w.heap.size, 2, none⟩) hblt).trans q2
  have hz6 := hb6.size
  have HD := hide (writes_remove w.heap.size b m n p r t c5 ⟨#[]⟩ w6 q06 q26 (by omega) (HO5.out.later hb6).at0 (HR5.out.later hb6).at0 hPl)
  go_wp2_with fail
  refine Calls.mono HD.out ?_
  rintro e w7 ⟨rfl, hb7⟩
  have hb67 : Below w5.heap.size w5 w7 := hb6.trans (hb7.mono hb6.size)
  have hz7 := hb7.size
  have HM := hide (writes_mkdir w.heap.size w.heap.size b m n p r t c5 ⟨#[]⟩ w7 ((hb7.cell (p := ⟨w.heap.size, 0, none⟩) (by show w.heap.size < w6.heap.size; omega)).trans q06) ((hb7.cell (p := ⟨w.heap.size, 2, none⟩) (by show w.heap.size < w6.heap.size; omega)).trans q26) (by omega) (HO5.out.later hb67) (HR5.out.later hb67) (by have := HN5.out.size; omega) hbb hbm hbp hrr htt hPl)
  have HN7 := hide (HN5.out.trans (hb67.mono HN5.out.size))
  clear HK HD hb6 hb7 hb67 q0 q2 q06 q26
  go_wp2_with fail
  refine Calls.mono HM.out ?_
  rintro e w8 ⟨rfl, hb8⟩
  go_wp2
  go_ret
  exact ⟨rfl, HN7.out.trans hb8⟩
end Go.Proofs.YtgdibjnendjhnaaGreatDoor
