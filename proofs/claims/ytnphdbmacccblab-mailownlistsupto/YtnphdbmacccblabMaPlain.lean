import Derived.Test.YtnphdbmacccblabProg
import Derived.WalkKit
import Derived.WalkSpells
import Derived.WalkLawsBesides
import Derived.Laws.OwnMore
import Derived.Laws.MakeOwn
import Derived.Laws.CopyOwn
import Derived.Below
import Derived.Lib.MinMax
import Derived.Deep.RegionHeld3
import Derived.Deep.QuietTactic
import Derived.BigQuiet
import Derived.Deep.DeepCutAuto
import Derived.Maps.AppendAt
import Derived.Maps.Own
import Derived.Maps.OwnSet
import Derived.Maps.Views
import Derived.DeepKeys4
import Derived.Carry
namespace Go.Proofs.Ytnphdbmacccblab
open Go.RowKit
theorem hide {p : Prop} (h : p) : Hid p := h
theorem i64_in {x : Int} (h0 : -9223372036854775808 ≤ x) (h1 : x < 9223372036854775808) : IntKind.i64.wrap x = x := by
  simp [IntKind.wrap, IntKind.signed, IntKind.bits]; omega
theorem wrap_in {x : Int} (h0 : -9223372036854775808 ≤ x) (h1 : x < 9223372036854775808) : wrap64 x = x := by unfold wrap64; omega
theorem via {P Q : Prop} {R : Prop} (f : R → P ∧ Q) (r : R) : P ∧ Q := f r
theorem blk_lt {w : World} {b : Nat} {o : Obj} (h : w.heap[b]? = some o) : b < w.heap.size := (Array.getElem?_eq_some_iff.1 h).1
theorem heap_last (w : World) (o : Obj) : (w.alloc o).heap[w.heap.size]? = some o := by
  unfold World.alloc
  exact Array.getElem?_push_size
theorem heap_setCell (w : World) (b o : Nat) (v : Value) (c : Array Value) (t : TypeId) (fr : Nat × Nat) (h : w.heap[b]? = some (.cells c t fr)) : (w.setCell ⟨b, o, none⟩ v).heap[b]? = some (.cells (c.setIfInBounds o v) t fr) := by
  simp only [World.setCell, Array.getElem?_modify, if_true, h, Option.map_some]
  rfl
/-- what has happened: all but the blocks of S are as they were -/
structure Kp (w w' : World) (S : Nat → Prop) : Prop where
  os : w'.os = w.os
  tape : w'.tape = w.tape
  output : w'.output = w.output
  size : w.heap.size ≤ w'.heap.size
  block : ∀ k, k < w.heap.size → ¬ S k → w'.heap[k]? = w.heap[k]?
def non : Nat → Prop := fun _ => False
theorem Kp.refl (w : World) (S : Nat → Prop) : Kp w w S := ⟨rfl, rfl, rfl, Nat.le_refl _, fun _ _ _ => rfl⟩
theorem Kp.trans {w w1 w2 : World} {S T : Nat → Prop} (h : Kp w w1 S) (h' : Kp w1 w2 T) (hT : ∀ k, T k → S k ∨ w.heap.size ≤ k) : Kp w w2 S :=
  ⟨h'.os.trans h.os, h'.tape.trans h.tape, h'.output.trans h.output, Nat.le_trans h.size h'.size, fun k hk hs => (h'.block k (Nat.lt_of_lt_of_le hk h.size) (fun t => by rcases hT k t with a | a; exact hs a; omega)).trans (h.block k hk hs)⟩
theorem Kp.mono {w w' : World} {S T : Nat → Prop} (h : Kp w w' S) (hT : ∀ k, S k → T k) : Kp w w' T := ⟨h.os, h.tape, h.output, h.size, fun k hk hs => h.block k hk (fun s => hs (hT k s))⟩
theorem Kp.of_below {w w' : World} (h : Below w.heap.size w w') (S : Nat → Prop) : Kp w w' S := ⟨h.os, h.tape, h.output, h.size, fun k hk _ => h.block k hk⟩
theorem Kp.below {w w' : World} (h : Kp w w' non) : Below w.heap.size w w' := ⟨h.os, h.tape, h.output, h.size, fun k hk => h.block k hk (fun f => f)⟩
theorem Kp.of_grown {w w' : World} {r : Option Nat} (h : w.grownBy w' r) : Kp w w' (fun k => some k = r) := ⟨h.os, h.tape, h.output, h.size, fun k hk hs => h.block k hk hs⟩
theorem Kp.drewN {w w' : World} {S : Nat → Prop} (h : Kp w w' S) (n : Nat) : Kp w (w'.drewN n) S := ⟨h.os, h.tape, h.output, h.size, h.block⟩
theorem Kp.drew {w w' : World} {S : Nat → Prop} (h : Kp w w' S) : Kp w w'.drew S := ⟨h.os, h.tape, h.output, h.size, h.block⟩
theorem Kp.alloc {w w' : World} {S : Nat → Prop} (h : Kp w w' S) (o : Obj) : Kp w (w'.alloc o) S := h.trans (Kp.of_below ((Below.refl _ w').alloc (Nat.le_refl _) o) S) (fun _ hk => Or.inl hk)
theorem Kp.set {w w' : World} {S : Nat → Prop} {R : Nat} (h : Kp w w' S) (hR : S R ∨ w.heap.size ≤ R) (j : Nat) (v : Value) : Kp w (w'.setCell ⟨R, j, none⟩ v) S :=
  h.trans (T := fun k => k = R) ⟨rfl, rfl, rfl, by rw [World.size_setCell]; exact Nat.le_refl _, fun k _ hs => Below.heap_setCell _ _ _ k (fun e => hs (e.symm ▸ rfl))⟩ (fun _ hk => by subst hk; exact hR)
/-- a letter -/
structure Lt where
  id : Int
  fr : Int
  td : Int
  tx : ByteArray
def Lt.cs (x : Lt) : List Value := [.int .i64 x.id, .int .i64 x.fr, .int .i64 x.td, .string x.tx]
def Lt.v (x : Lt) : Value := .agg #[.int .i64 x.id, .int .i64 x.fr, .int .i64 x.td, .string x.tx]
def noL : Lt := ⟨0, 0, 0, ⟨#[]⟩⟩
/-- letters, as cells -/
def ltc (L : List Lt) : List Value := L.flatMap Lt.cs
theorem ltc_len (L : List Lt) : (ltc L).length = L.length * 4 := by
  induction L with
  | nil => rfl
  | cons a r ih =>
    unfold ltc at *
    simp only [List.flatMap_cons, List.length_append, List.length_cons, ih, Lt.cs, List.length_nil]
    omega
theorem ltc_append (a b : List Lt) : ltc (a ++ b) = ltc a ++ ltc b := List.flatMap_append
theorem ltc_at (L : List Lt) (q : Nat) (h : q < L.length) : (ltc L)[q * 4]? = some (.int .i64 L[q].id) ∧ (ltc L)[q * 4 + 1]? = some (.int .i64 L[q].fr) ∧ (ltc L)[q * 4 + 2]? = some (.int .i64 L[q].td) ∧ (ltc L)[q * 4 + 3]? = some (.string L[q].tx) := by
  induction L generalizing q with
  | nil => simp at h
  | cons a r ih =>
    cases q with
    | zero => exact ⟨rfl, rfl, rfl, rfl⟩
    | succ q =>
      have h' : q < r.length := by simpa using h
      obtain ⟨e1, e2, e3, e4⟩ := ih q h'
      unfold ltc at *
      simp only [List.flatMap_cons, List.getElem_cons_succ]
      rw [show (q + 1) * 4 = q * 4 + 4 by omega, show q * 4 + 4 + 1 = (q * 4 + 1) + 4 by omega, show q * 4 + 4 + 2 = (q * 4 + 2) + 4 by omega, show q * 4 + 4 + 3 = (q * 4 + 3) + 4 by omega]
      exact ⟨e1, e2, e3, e4⟩
theorem ltc_take (L : List Lt) (i : Nat) : (ltc L).take (i * 4) = ltc (L.take i) := by
  induction L generalizing i with
  | nil => simp [ltc]
  | cons a r ih =>
    cases i with
    | zero => simp [ltc]
    | succ i =>
      have := ih i
      unfold ltc at *
      simp only [List.flatMap_cons, List.take_succ_cons]
      rw [show (i + 1) * 4 = a.cs.length + i * 4 by simp [Lt.cs]; omega, List.take_length_add_append, this]
theorem ltc_drop (L : List Lt) (i : Nat) : (ltc L).drop (i * 4) = ltc (L.drop i) := by
  induction L generalizing i with
  | nil => simp [ltc]
  | cons a r ih =>
    cases i with
    | zero => simp [ltc]
    | succ i =>
      have := ih i
      unfold ltc at *
      simp only [List.flatMap_cons, List.drop_succ_cons]
      rw [show (i + 1) * 4 = a.cs.length + i * 4 by simp [Lt.cs]; omega, List.drop_length_add_append, this]
theorem own_sl {w : World} {base e sz n : Nat} {v : Value} {xs : List Value} (h : w.ownsRow base e sz v n xs) : ∃ ba cap, v = .slice ba n cap := by
  rcases h.2 with ⟨hv, hz⟩ | ⟨g, cap, cur, hv, _⟩
  · exact ⟨none, 0, by rw [hv, hz]⟩
  · exact ⟨_, _, hv⟩
theorem own_g {w : World} {base e sz n : Nat} {v : Value} {xs : List Value} (h : w.ownsRow base e sz v n xs) (hn : 0 < n) : ∃ g cap, v = .slice (some ⟨g, 0, none⟩) n cap := by
  rcases h.2 with ⟨hv, hz⟩ | ⟨g, cap, cur, hv, _⟩
  · omega
  · exact ⟨_, _, hv⟩
theorem own_kp {w w' : World} {S : Nat → Prop} {base e sz n : Nat} {v : Value} {xs : List Value} (h : w.ownsRow base e sz v n xs) (hk : Kp w w' S) (hne : ∀ k, v.ownBlock = some k → ¬ S k) : w'.ownsRow base e sz v n xs := by
  refine ⟨h.1, ?_⟩
  rcases h.2 with ⟨hv, hz⟩ | ⟨g, cap, cur, rfl, h1, h2, h3⟩
  · exact .inl ⟨hv, hz⟩
  · exact .inr ⟨g, cap, cur, rfl, h1, (hk.block g (blk_lt h2) (hne g rfl)).trans h2, h3⟩
end Go.Proofs.Ytnphdbmacccblab
