import Derived.Test.YtgdibjnendjhnaaGreatDoorW5
namespace Go.Proofs.YtgdibjnendjhnaaGreatDoor
open Go.RowKit
theorem splitRootH {w : World} {b m n p : Nat} (h : OwnAt w b m n p) (s : ByteArray) (hp : s.data.toList = []) : Hid (∀ w', Below w.heap.size w w' → Calls Tryz.prog 64 #[.string s] w' fun e w'' => e = .returned (.tuple #[.slice none 0 0, .bool true]) ∧ Below w'.heap.size w' w'') :=
  fun _ hb => by
    obtain ⟨k, hk⟩ := (h.later hb).g
    refine (split_yes s k _ hk (by simp [isPath, hp])).mono ?_
    rintro e w' ⟨v, rfl, ⟨_, rfl⟩ | ⟨B, c, hlo, h0, _⟩, hb'⟩
    · exact ⟨rfl, hb'⟩
    · simp [nNames, hp] at h0
theorem splitManyH {w : World} {b m n p : Nat} (h : OwnAt w b m n p) (s : ByteArray) (k : Nat) (hp : isPath s.data.toList = true) (hn : nNames s.data.toList = k) (hk0 : 0 < k) : Hid (∀ w', Below w.heap.size w w' → Calls Tryz.prog 64 #[.string s] w' fun e w'' => ∃ B c, e = .returned (.tuple #[.slice (some ⟨B, 0, none⟩) k c, .bool true]) ∧ w'.heap.size ≤ B ∧ k ≤ c ∧ B < w''.heap.size ∧ (∀ j, j < k → ∃ x, w''.cell? ⟨B, j, none⟩ = some (.string x)) ∧ Below w'.heap.size w' w'') :=
  fun _ hb => by
    obtain ⟨k, hk⟩ := (h.later hb).g
    refine (split_yes s k _ hk hp).mono ?_
    rintro e w' ⟨v, rfl, ⟨h0, rfl⟩ | ⟨B, c, hlo, h0, rfl, hc, hB, hx⟩, hb'⟩
    · omega
    · rw [hn] at hc hx ⊢
      exact ⟨B, c, rfl, hlo, hc, hB, hx, hb'⟩
theorem followNoneH {w : World} {b m n p : Nat} (_h : OwnAt w b m n p) (a : Option Addr) (c : Nat) : Hid (∀ w', Calls Tryz.prog 66 #[.agg #[.map (some m), .map (some n)], .slice a 0 c] w' fun e w'' => e = .returned (.tuple #[.int .i64 0, .int .i64 0]) ∧ Below w'.heap.size w' w'') :=
  fun _ => follow_none m n a c _

theorem own4 {w w2 : World} {a0 a1 a2 a3 : Value} {t u : TypeId} (hb : Below (w.heap.size + 2) ((w.alloc (.cells #[a0, a1] t)).alloc (.cells #[a2, a3] u)) w2) :
    (w2.cell? ⟨w.heap.size, 0, none⟩ = some a0 ∧ w2.cell? ⟨w.heap.size, 1, none⟩ = some a1 ∧ w2.cell? ⟨w.heap.size + 1, 0, none⟩ = some a2 ∧ w2.cell? ⟨w.heap.size + 1, 1, none⟩ = some a3) ∧
    (w2.frozen? ⟨w.heap.size, 0, none⟩ = false ∧ w2.frozen? ⟨w.heap.size, 1, none⟩ = false ∧ w2.frozen? ⟨w.heap.size + 1, 0, none⟩ = false ∧ w2.frozen? ⟨w.heap.size + 1, 1, none⟩ = false) := by
  refine ⟨⟨?_, ?_, ?_, ?_⟩, ⟨?_, ?_, ?_, ?_⟩⟩
  · rw [hb.cell (p := ⟨w.heap.size, 0, none⟩) (by simp)]; simp
  · rw [hb.cell (p := ⟨w.heap.size, 1, none⟩) (by simp)]; simp
  · rw [hb.cell (p := ⟨w.heap.size + 1, 0, none⟩) (by simp)]; simp
  · rw [hb.cell (p := ⟨w.heap.size + 1, 1, none⟩) (by simp)]; simp
  · rw [hb.frozen (p := ⟨w.heap.size, 0, none⟩) (by simp)]; simp [go_sem]
  · rw [hb.frozen (p := ⟨w.heap.size, 1, none⟩) (by simp)]; simp [go_sem]
  · rw [hb.frozen (p := ⟨w.heap.size + 1, 0, none⟩) (by simp)]; simp [go_sem]
  · rw [hb.frozen (p := ⟨w.heap.size + 1, 1, none⟩) (by simp)]; simp [go_sem]
set_option maxHeartbeats 400000 in
set_option maxRecDepth 100000 in
theorem look_root (b m n p : Nat) (s : ByteArray) (w : World) (h : OwnAt w b m n p) (hp : s.data.toList = []) :
    Calls Tryz.prog 49 #[.pointer (some ⟨b, 0, none⟩), .string s, .slice none 0 0] w fun e w' => e = .returned (.tuple #[.agg #[.int .i64 0, .int .i64 1], .agg #[.int .i64 0, .string ⟨#[]⟩], .int .i64 0]) ∧ Below w.heap.size w w' := by
  have HR := readyH h
  have HS := splitRootH h s hp
  clear h hp
  go_enter Tryz.func49, Tryz.ntmps49
  go_wp2_with (first
    | (go_at_call 63; refine Calls.mono (HR.out _ (by repeat (first | exact Below.refl _ _ | refine Below.alloc ?_ (by simp) _))) ?_; rintro e w' ⟨rfl, rfl⟩)
    | (go_at_call 64; refine Calls.mono (HS.out _ (by repeat (first | exact Below.refl _ _ | refine Below.alloc ?_ (by simp) _))) ?_; rintro e w1 ⟨rfl, hb⟩; obtain ⟨hc1, hf1, hz1⟩ := bcell hb; simp only [World.size_alloc] at hz1))
  refine wp_loop_rounds 1 ?_
  rw [rounds_succ]
  go_wp2
  have hB : Below w.heap.size w w1 := (((Below.refl _ _).alloc (Nat.le_refl _) _).alloc (by simp) _).trans (hb.mono (by simp; omega))
  have k0 : (w1.cell? ⟨w.heap.size, 0, none⟩).isSome = true := by rw [hc1 _ _ (by simp; omega)]; simp
  have k1 : (w1.cell? ⟨w.heap.size, 1, none⟩).isSome = true := by rw [hc1 _ _ (by simp; omega)]; simp
  have k2 : (w1.cell? ⟨w.heap.size + 1, 0, none⟩).isSome = true := by rw [hc1 _ _ (by simp)]; simp
  have k3 : (w1.cell? ⟨w.heap.size + 1, 1, none⟩).isSome = true := by rw [hc1 _ _ (by simp)]; simp
  refine bodyPost_ret (v := .tuple #[.agg #[.int .i64 0, .int .i64 1], .agg #[.int .i64 0, .string ⟨#[]⟩], .int .i64 0]) (by simp [results, Tryz.results49, go_sem, k0, k1, k2, k3]) rfl ⟨rfl, ?_⟩
  repeat (first | exact hB | refine Below.setCell ?_ (by simp) _)

set_option maxHeartbeats 800000 in
set_option maxRecDepth 100000 in
theorem look_deep (b m n p k : Nat) (s : ByteArray) (w : World) (h : OwnAt w b m n p) (hp : isPath s.data.toList = true) (hn : nNames s.data.toList = k) (hk2 : 2 ≤ k) (hk8 : k ≤ 8) :
    Calls Tryz.prog 49 #[.pointer (some ⟨b, 0, none⟩), .string s, .slice none 0 0] w fun e w' => e = .returned (.tuple #[.agg #[.int .i64 0, .int .i64 0], .agg #[.int .i64 0, .string ⟨#[]⟩], .int .i64 12]) ∧ Below w.heap.size w w' := by
  have HR := readyH h
  have HS := splitManyH h s k hp hn (by omega)
  have HW : Hid (OwnAt w b m n p) := h
  have hlt := h.lt
  clear h hp hn
  go_enter Tryz.func49, Tryz.ntmps49
  go_wp2_with (first
    | (go_at_call 63; refine Calls.mono (HR.out _ (by repeat (first | exact Below.refl _ _ | refine Below.alloc ?_ (by simp) _))) ?_; rintro e w' ⟨rfl, rfl⟩)
    | (go_at_call 64; refine Calls.mono (HS.out _ (by repeat (first | exact Below.refl _ _ | refine Below.alloc ?_ (by simp) _))) ?_; rintro e w1 ⟨B, c, rfl, hlo, hkc, hB1, hx, hb⟩; simp only [World.size_alloc] at hlo; skip))
  have hB : Below w.heap.size w w1 := (((Below.refl _ _).alloc (Nat.le_refl _) _).alloc (by simp) _).trans (hb.mono (by simp; omega))
  have hO := HW.out.later hB
  obtain ⟨x0, hx0⟩ := hx 0 (by omega)
  clear hx
  have hc10 := hO.c10
  have hc11 := hO.c11
  obtain ⟨clock, hm⟩ := hO.hm
  have HF : Hid (∀ w', Below w1.heap.size w1 w' → Calls Tryz.prog 66 #[.agg #[.map (some m), .map (some n)], .slice (some ⟨B, 0, none⟩) (k - 1) c] w' fun e w'' => e = .returned (.tuple #[.int .i64 0, .int .i64 12]) ∧ Below w'.heap.size w' w'') := fun w' hb' =>
    follow_miss m n clock B (k - 1) c x0 w' (below_map hb' hm) (by omega) (Nat.lt_of_lt_of_le hB1 hb'.size) (by rw [hb'.cell (p := ⟨B, 0, none⟩) hB1]; exact hx0)
  clear hm
  have hz : ((k : Int) == 0) = false := by rw [beq_eq_false_iff_ne]; omega
  refine wp_loop_rounds 1 ?_
  rw [rounds_succ]
  go_wp2_with fail
  go_region_with (go_at_call 66; refine Calls.mono (HF.out _ ((Below.refl _ _).drew)) ?_; rintro e w2 ⟨rfl, hb2⟩)
  all_goals
    have hb2' : Below w1.heap.size w1 w2 := (Below.refl _ _).drew.trans hb2
    have hB2 : Below w.heap.size w w2 := hB.trans (hb2'.mono hB.size)
    obtain ⟨⟨q0, q1, q2, q3⟩, r0, r1, r2, r3⟩ := own4 ((hb.mono (by simp)).trans (hb2'.mono (by have := hb.size; simp at this; omega)))
    go_wp2
    refine bodyPost_ret (v := .tuple #[.agg #[.int .i64 0, .int .i64 0], .agg #[.int .i64 0, .string ⟨#[]⟩], .int .i64 12]) (by simp [results, Tryz.results49, go_sem, q0, q1, q2, q3]) rfl ⟨rfl, ?_⟩
    repeat (first | exact hB2 | refine Below.setCell ?_ (by simp) _)

end Go.Proofs.YtgdibjnendjhnaaGreatDoor
