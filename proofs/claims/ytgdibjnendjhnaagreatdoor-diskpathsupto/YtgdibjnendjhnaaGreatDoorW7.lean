import Derived.Test.YtgdibjnendjhnaaGreatDoorW6b
namespace Go.Proofs.YtgdibjnendjhnaaGreatDoor
open Go.RowKit
set_option maxHeartbeats 8000000 in
set_option maxRecDepth 100000 in
theorem look_one (b m n p : Nat) (s : ByteArray) (w : World) (h : OwnAt w b m n p) (hp : isPath s.data.toList = true) (hn : nNames s.data.toList = 1) :
    Calls Tryz.prog 49 #[.pointer (some ⟨b, 0, none⟩), .string s, .slice none 0 0] w fun e w' => ∃ x, e = .returned (.tuple #[.agg #[.int .i64 0, .int .i64 0], .agg #[.int .i64 0, .string x], .int .i64 0]) ∧ Below w.heap.size w w' := by
  have HR := readyH h
  have HS := splitManyH h s 1 hp hn (by omega)
  have HW : Hid (OwnAt w b m n p) := h
  have hlt := h.lt
  clear h hp hn
  go_enter Tryz.func49, Tryz.ntmps49
  go_wp2_with (first
    | (go_at_call 63; refine Calls.mono (HR.out _ (by repeat (first | exact Below.refl _ _ | refine Below.alloc ?_ (by simp) _))) ?_; rintro e w' ⟨rfl, rfl⟩)
    | (go_at_call 64; refine Calls.mono (HS.out _ (by repeat (first | exact Below.refl _ _ | refine Below.alloc ?_ (by simp) _))) ?_; rintro e w1 ⟨B, c, rfl, hlo, hkc, hB1, hx, hb⟩; simp only [World.size_alloc] at hlo; skip))
  have hB : Below w.heap.size w w1 := (((Below.refl _ _).alloc (Nat.le_refl _) _).alloc (by simp) _).trans (hb.mono (by simp; omega))
  have hO := HW.out.later hB
  obtain ⟨x0, hx0⟩ := hx 0 (by omega)
  clear hx
  have hc10 := hO.c10
  have hc11 := hO.c11
  obtain ⟨clock, hm⟩ := hO.hm
  have HF : Hid (∀ w', Calls Tryz.prog 66 #[.agg #[.map (some m), .map (some n)], .slice (some ⟨B, 0, none⟩) 0 c] w' fun e w'' => e = .returned (.tuple #[.int .i64 0, .int .i64 0]) ∧ Below w'.heap.size w' w'') := fun w' => follow_none m n _ c w'
  have HG : Hid (∀ w', Below w1.heap.size w1 w' → Calls Tryz.prog 76 #[.agg #[.map (some m), .map (some n)], .int .i64 0, .string x0] w' fun e w'' => e = .returned (.agg #[.int .i64 0, .int .i64 0]) ∧ Below w'.heap.size w' w'') := fun w' hb' =>
    get_empty m n clock 0 x0 w' (below_map hb' hm)
  clear hm
  refine wp_loop_rounds 1 ?_
  rw [rounds_succ]
  go_wp2_with fail
  go_region_with (go_at_call 66; refine Calls.mono (HF.out _) ?_; rintro e w2 ⟨rfl, hb2⟩)
  all_goals
    have hb2' : Below w1.heap.size w1 w2 := (Below.refl _ _).drew.trans hb2
    have hB2 : Below w.heap.size w w2 := hB.trans (hb2'.mono hB.size)
    have hW2 := (hb.mono (B' := w.heap.size + 2) (by simp)).trans (hb2'.mono (by have := hb.size; simp at this; omega))
    have hz2 : w.heap.size + 2 ≤ w2.heap.size := by have h1 := hb.size; have h2 := hb2'.size; simp at h1; omega
    obtain ⟨⟨q0, q1, q2, q3⟩, r0, r1, r2, r3⟩ := own4 hW2
    have d10 := (HW.out.later hB2).c10
    have d11 := (HW.out.later hB2).c11
    have dx : w2.cell? ⟨B, 0, none⟩ = some (.string x0) := by rw [hb2'.cell (p := ⟨B, 0, none⟩) hB1]; exact hx0
    have hB2s : B < w2.heap.size := Nat.lt_of_lt_of_le hB1 hb2'.size
    clear hx0 hc10 hc11
    have n1 : ¬ B = w.heap.size := by omega
    have n2 : ¬ B = w.heap.size + 1 := by omega
    have n3 : ¬ w.heap.size = B := by omega
    have n4 : ¬ w.heap.size + 1 = B := by omega
    go_wp2_with fail
    go_region_with (go_at_call 76; refine Calls.mono (HG.out _ ?_) ?_; exact hb2'.drew; rintro e w3 ⟨rfl, hb3⟩; have hb3' : Below w2.heap.size w2 w3 := (Below.refl _ _).drew.trans hb3; obtain ⟨⟨s0, s1, s2, s3⟩, t0, t1, t2, t3⟩ := own4 (hW2.trans (hb3'.mono hz2)); have dx3 : w3.cell? ⟨B, 0, none⟩ = some (.string x0) := (hb3'.cell (p := ⟨B, 0, none⟩) hB2s).trans dx)
    all_goals
      go_wp2
      have hB3 : Below w.heap.size w w3 := hB2.trans (hb3'.mono hB2.size)
      refine bodyPost_ret (v := .tuple #[.agg #[.int .i64 0, .int .i64 0], .agg #[.int .i64 0, .string x0], .int .i64 0]) (by simp [results, Tryz.results49, go_sem, s0, s1, s2, s3]) rfl ⟨x0, rfl, ?_⟩
      repeat (first | exact hB3 | refine Below.drew ?_ | refine Below.setCell ?_ (by simp) _)
end Go.Proofs.YtgdibjnendjhnaaGreatDoor
