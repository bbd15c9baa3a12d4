import Derived.Test.YtgdibjnendjhnaaGreatDoorW4
import Derived.Deep.RegionWith
import Derived.BigQuiet
import Derived.Deep.QuietTactic
namespace Go.Proofs.YtgdibjnendjhnaaGreatDoor
open Go.RowKit
theorem below_map {w w' : World} {m c : Nat} (hb : Below w.heap.size w w') (h : w.heap[m]? = some (.map #[] c)) : w'.heap[m]? = some (.map #[] c) := by
  have hlt : m < w.heap.size := by
    rcases Nat.lt_or_ge m w.heap.size with h' | h'
    · exact h'
    · rw [Array.getElem?_eq_none h'] at h; simp at h
  rw [hb.block m hlt]; exact h
set_option maxHeartbeats 400000 in
set_option maxRecDepth 100000 in
theorem follow_none (m n : Nat) (a : Option Addr) (c : Nat) (w : World) :
    Calls Tryz.prog 66 #[.agg #[.map (some m), .map (some n)], .slice a 0 c] w fun e w' => e = .returned (.tuple #[.int .i64 0, .int .i64 0]) ∧ Below w.heap.size w w' := by
  go_enter Tryz.func66, Tryz.ntmps66
  go_wp2
  refine wp_loop_rounds 1 ?_
  rw [rounds_succ]
  go_wp2
  go_ret2
  exact ⟨rfl, (Below.refl _ _).alloc (Nat.le_refl _) _⟩
set_option maxHeartbeats 400000 in
set_option maxRecDepth 100000 in
theorem follow_miss (m n clock B : Nat) (k c : Nat) (x : ByteArray) (w : World) (hm : w.heap[m]? = some (.map #[] clock)) (hk : 0 < k) (hB : B < w.heap.size) (hc : w.cell? ⟨B, 0, none⟩ = some (.string x)) :
    Calls Tryz.prog 66 #[.agg #[.map (some m), .map (some n)], .slice (some ⟨B, 0, none⟩) k c] w fun e w' => e = .returned (.tuple #[.int .i64 0, .int .i64 12]) ∧ Below w.heap.size w w' := by
  have hg : ∀ o, Calls Tryz.prog 76 #[.agg #[.map (some m), .map (some n)], .int .i64 0, .string x] (w.alloc o) fun e w' => e = .returned (.agg #[.int .i64 0, .int .i64 0]) ∧ Below (w.heap.size + 1) (w.alloc o) w' := fun o => by
    have := get_empty m n clock 0 x (w.alloc o) (below_map ((Below.refl _ _).alloc (Nat.le_refl _) _) hm)
    rwa [World.size_alloc] at this
  have HG := hide hg
  clear hm hg
  go_enter Tryz.func66, Tryz.ntmps66
  go_wp2
  refine wp_loop_rounds 1 ?_
  rw [rounds_succ]
  go_wp2_with (go_at_call 76; refine Calls.mono (HG.out _) ?_; rintro e w1 ⟨rfl, hb⟩)
  go_ret2
  exact ⟨rfl, (((Below.refl _ _).alloc (Nat.le_refl _) _).trans (hb.mono (Nat.le_succ _))).alloc (by have := hb.size; simp at this; omega) _⟩

theorem bcell {W w1 : World} (hb : Below W.heap.size W w1) : (∀ b o, b < W.heap.size → w1.cell? ⟨b, o, none⟩ = W.cell? ⟨b, o, none⟩) ∧ (∀ b o, b < W.heap.size → w1.frozen? ⟨b, o, none⟩ = W.frozen? ⟨b, o, none⟩) ∧ W.heap.size ≤ w1.heap.size :=
  ⟨fun b o h => hb.cell (p := ⟨b, o, none⟩) h, fun b o h => hb.frozen (p := ⟨b, o, none⟩) h, hb.size⟩

/-- what the calls that look want of a disk at block b that is empty: 'seen.entries' is block m, 'seen.bytes' block n, 'pending' block p -/
structure OwnAt (w : World) (b m n p : Nat) : Prop where
  c5 : w.cell? ⟨b, 5, none⟩ = some (.bool false)
  c10 : w.cell? ⟨b, 10, none⟩ = some (.map (some m))
  c11 : w.cell? ⟨b, 11, none⟩ = some (.map (some n))
  c14 : w.cell? ⟨b, 14, none⟩ = some (.map (some p))
  lt : b < w.heap.size
  hm : ∃ clock, w.heap[m]? = some (.map #[] clock)
  g : ∃ k : Int, w.cell? ⟨0, 0, none⟩ = some (.int .i64 k)
  pos : 0 < w.heap.size

theorem OwnAt.later {w w' : World} {b m n p : Nat} (h : OwnAt w b m n p) (hb : Below w.heap.size w w') : OwnAt w' b m n p where
  c5 := by rw [hb.cell (p := ⟨b, 5, none⟩) h.lt]; exact h.c5
  c10 := by rw [hb.cell (p := ⟨b, 10, none⟩) h.lt]; exact h.c10
  c11 := by rw [hb.cell (p := ⟨b, 11, none⟩) h.lt]; exact h.c11
  c14 := by rw [hb.cell (p := ⟨b, 14, none⟩) h.lt]; exact h.c14
  lt := Nat.lt_of_lt_of_le h.lt hb.size
  hm := by obtain ⟨c, hc⟩ := h.hm; exact ⟨c, below_map hb hc⟩
  g := by obtain ⟨k, hk⟩ := h.g; exact ⟨k, by rw [hb.cell (p := ⟨0, 0, none⟩) h.pos]; exact hk⟩
  pos := Nat.lt_of_lt_of_le h.pos hb.size

theorem readyH {w : World} {b m n p : Nat} (h : OwnAt w b m n p) : Hid (∀ w', Below w.heap.size w w' → Calls Tryz.prog 63 #[.pointer (some ⟨b, 0, none⟩)] w' fun e w'' => e = .returned (.int .i64 0) ∧ w'' = w') :=
  fun _ hb => ready_ok b p _ (h.later hb).c14 (h.later hb).c5
theorem splitNoH {w : World} {b m n p : Nat} (h : OwnAt w b m n p) (s : ByteArray) (hp : isPath s.data.toList = false) : Hid (∀ w', Below w.heap.size w w' → Calls Tryz.prog 64 #[.string s] w' fun e w'' => e = .returned (.tuple #[.slice none 0 0, .bool false]) ∧ Below w'.heap.size w' w'') :=
  fun _ hb => by obtain ⟨k, hk⟩ := (h.later hb).g; exact split_no s k _ hk hp
theorem splitYesH {w : World} {b m n p : Nat} (h : OwnAt w b m n p) (s : ByteArray) (hp : isPath s.data.toList = true) : Hid (∀ w', Below w.heap.size w w' → Calls Tryz.prog 64 #[.string s] w' fun e w'' => ∃ v, e = .returned (.tuple #[v, .bool true]) ∧ Texts w'.heap.size w'' v (nNames s.data.toList) ∧ Below w'.heap.size w' w'') :=
  fun _ hb => by obtain ⟨k, hk⟩ := (h.later hb).g; exact split_yes s k _ hk hp

set_option maxHeartbeats 400000 in
set_option maxRecDepth 100000 in
theorem look_no (b m n p : Nat) (s : ByteArray) (w : World) (h : OwnAt w b m n p) (hp : isPath s.data.toList = false) :
    Calls Tryz.prog 49 #[.pointer (some ⟨b, 0, none⟩), .string s, .slice none 0 0] w fun e w' => e = .returned (.tuple #[.agg #[.int .i64 0, .int .i64 0], .agg #[.int .i64 0, .string ⟨#[]⟩], .int .i64 11]) ∧ Below w.heap.size w w' := by
  have HR := readyH h
  have HS := splitNoH h s hp
  clear h hp
  go_enter Tryz.func49, Tryz.ntmps49
  go_wp2_with (first
    | (go_at_call 63; refine Calls.mono (HR.out _ (by repeat (first | exact Below.refl _ _ | refine Below.alloc ?_ (by simp) _))) ?_; rintro e w' ⟨rfl, rfl⟩)
    | (go_at_call 64; refine Calls.mono (HS.out _ (by repeat (first | exact Below.refl _ _ | refine Below.alloc ?_ (by simp) _))) ?_; rintro e w1 ⟨rfl, hb⟩; obtain ⟨hc1, hf1, hz1⟩ := bcell hb; simp only [World.size_alloc] at hz1))
  have hB : Below w.heap.size w w1 := (((Below.refl _ _).alloc (Nat.le_refl _) _).alloc (by simp) _).trans (hb.mono (by simp; omega))
  have k0 : (w1.cell? ⟨w.heap.size, 0, none⟩).isSome = true := by rw [hc1 _ _ (by simp; omega)]; simp
  have k1 : (w1.cell? ⟨w.heap.size, 1, none⟩).isSome = true := by rw [hc1 _ _ (by simp; omega)]; simp
  have k2 : (w1.cell? ⟨w.heap.size + 1, 0, none⟩).isSome = true := by rw [hc1 _ _ (by simp)]; simp
  have k3 : (w1.cell? ⟨w.heap.size + 1, 1, none⟩).isSome = true := by rw [hc1 _ _ (by simp)]; simp
  refine bodyPost_ret (v := .tuple #[.agg #[.int .i64 0, .int .i64 0], .agg #[.int .i64 0, .string ⟨#[]⟩], .int .i64 11]) (by simp [results, Tryz.results49, go_sem, k0, k1, k2, k3]) rfl ⟨rfl, ?_⟩
  repeat (first | exact hB | refine Below.setCell ?_ (by simp) _)
end Go.Proofs.YtgdibjnendjhnaaGreatDoor
