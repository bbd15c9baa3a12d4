import Derived.Test.YtjibhdcnibgegaaRzCmp
import Derived.Laws.ResultCell
namespace Go.Proofs.Ytjibhdcnibgegaa
open Go.RowKit
/-- the pair of a key, or none -/
def pairFor (ps : List KV) (x : ByteArray) : Option KV := ps.find? (fun p => decide (p.1 = x))
theorem pairFor_some {ps : List KV} {x : ByteArray} {i : Nat} (hr : Rises ps.length (fun t => (ps.getD t default).1)) (hi : i < ps.length) (e : (ps.getD i default).1 = x) : pairFor ps x = some ps[i] := by
  unfold pairFor
  rw [List.find?_eq_some_iff_getElem]
  rw [getD_at hi] at e
  refine ⟨by simpa using e, i, hi, rfl, fun j hj => ?_⟩
  simp only [Bool.not_eq_true', decide_eq_false_iff_not]
  intro e2
  have := hr.inj (i := j) (j := i) (by omega) hi (by show (ps.getD j default).1 = (ps.getD i default).1; rw [getD_at (by omega), getD_at hi, e2, e])
  omega
theorem pairFor_none {ps : List KV} {x : ByteArray} (h : ∀ t, t < ps.length → (ps.getD t default).1 ≠ x) : pairFor ps x = none := by
  unfold pairFor
  rw [List.find?_eq_none]
  intro p hp
  obtain ⟨i, hi, rfl⟩ := List.getElem_of_mem hp
  have := h i hi
  rw [getD_at hi] at this
  simpa using this
def pairForV (ps : List KV) (x : ByteArray) : Value := match pairFor ps x with | some p => .agg #[.string p.1, .string p.2] | none => .agg #[.string ⟨#[]⟩, .string ⟨#[]⟩]
def pairForB (ps : List KV) (x : ByteArray) : Bool := (pairFor ps x).isSome
set_option maxHeartbeats 1000000 in
set_option maxRecDepth 100000 in
set_option linter.unusedSimpArgs false in
/-- find of pairs -/
theorem findP_any (ao : Option Addr) (b off cap : Nat) (ps : List KV) (x : ByteArray) (w : World) (hao : 0 < ps.length → ao = some ⟨b, off, none⟩) (hb : 0 < ps.length → b < w.heap.size) (hl : LiesP b off w ps) (hlen : ps.length ≤ 1048576) (hr : Rises ps.length (fun i => (ps.getD i default).1)) :
    Calls Try.prog 50 #[.slice ao ps.length cap, .string x, .func (.func 51) #[] #[]] w fun e w' => e = .returned (.tuple #[pairForV ps x, .bool (pairForB ps x)]) ∧ Below w.heap.size w w' := by
  go_enter Try.func50, Try.ntmps50
  obtain ⟨W2, hW2⟩ : ∃ W2, W2 = (w.alloc (.cells #[.func (.func 51) #[] #[]] 98)).alloc (.cells #[.string ⟨#[]⟩, .string ⟨#[]⟩] 81) := ⟨_, rfl⟩
  have s2 : W2.heap.size = w.heap.size + 2 := by rw [hW2]; simp
  have b2 : Below w.heap.size w W2 := by rw [hW2]; exact ((Below.refl _ w).alloc (Nat.le_refl _) _).alloc (by simp) _
  have kt : W2.cell? ⟨w.heap.size, 0, none⟩ = some (.func (.func 51) #[] #[]) := by rw [hW2]; simp
  have k0 : W2.cell? ⟨w.heap.size + 1, 0, none⟩ = some (.string ⟨#[]⟩) := by rw [hW2]; simp
  have k1 : W2.cell? ⟨w.heap.size + 1, 1, none⟩ = some (.string ⟨#[]⟩) := by rw [hW2]; simp
  have f0 : W2.frozen? ⟨w.heap.size + 1, 0, none⟩ = false := by rw [hW2]; simp
  have f1 : W2.frozen? ⟨w.heap.size + 1, 1, none⟩ = false := by rw [hW2]; simp
  have HL := hide (fun w' (hb' : Below w.heap.size w w') (h : 0 < ps.length) => hl.below (hb h) hb')
  have BS := hide (bsP_any ao b off cap ps x w.heap.size W2 hao (fun h => Nat.lt_of_lt_of_le (hb h) b2.size) (fun i hi => HL.out W2 b2 (by omega) i hi) hlen hr kt (by omega))
  have HB2 := hide b2
  have KK : Hid (∀ w', Below W2.heap.size W2 w' → (World.cell? w' ⟨w.heap.size + 1, 0, none⟩ = some (.string ⟨#[]⟩) ∧ World.cell? w' ⟨w.heap.size + 1, 1, none⟩ = some (.string ⟨#[]⟩)) ∧ World.frozen? w' ⟨w.heap.size + 1, 0, none⟩ = false ∧ World.frozen? w' ⟨w.heap.size + 1, 1, none⟩ = false) := fun w' hw => by
    have hl2 : w.heap.size + 1 < W2.heap.size := by omega
    rw [hw.cell (by exact hl2), hw.cell (by exact hl2), hw.frozen (by exact hl2), hw.frozen (by exact hl2)]
    exact ⟨⟨k0, k1⟩, f0, f1⟩
  have HR := hide hr
  clear b2 kt k0 k1 f0 f1 hl hr
  go_wp2_with fail
  rw [← hW2]
  refine Calls.mono BS.out ?_
  rintro e w3 ⟨⟨i, f, rfl, hf⟩, hb3⟩
  obtain ⟨⟨q0, q1⟩, q2, q3⟩ := KK.out w3 hb3
  have B3 := hide (HB2.out.trans (hb3.mono (by omega)))
  have s3 := hb3.size
  clear hb3 hW2
  cases f with
  | true =>
    obtain ⟨hi, e1⟩ := hf.1 rfl
    obtain rfl := hao (by omega)
    have hb' := hb (by omega)
    obtain ⟨g0, g1⟩ := HL.out w3 B3.out (by omega) i hi
    have hp := pairFor_some HR.out hi e1
    have HV : Hid (pairForV ps x = .agg #[.string ps[i].1, .string ps[i].2]) := by
      have e : pairForV ps x = .agg #[.string ps[i].1, .string ps[i].2] := by unfold pairForV; rw [hp]
      exact e
    have HF : Hid (pairForB ps x = true) := by
      have e : pairForB ps x = true := by unfold pairForB; rw [hp]; rfl
      exact e
    have hii : (i : Int) < (ps.length : Int) := by omega
    clear hf e1 hp
    generalize ps[i].1 = K1 at *
    generalize ps[i].2 = V1 at *
    go_wp2_with fail
    refine bodyPost_ret (v := .tuple #[.agg #[.string K1, .string V1], .bool true]) ?_ rfl ⟨by rw [HV.out, HF.out], ?_⟩
    · rw [results_cell_tmp rfl]
      go_simp
    · first
        | exact (B3.out.setCell (by simp) _).setCell (by simp) _
        | exact ((B3.out.drew).setCell (by simp) _).setCell (by simp) _
  | false =>
    have hp := pairFor_none (hf.2 rfl)
    have HV : Hid (pairForV ps x = .agg #[.string ⟨#[]⟩, .string ⟨#[]⟩]) := by
      have e : pairForV ps x = .agg #[.string ⟨#[]⟩, .string ⟨#[]⟩] := by unfold pairForV; rw [hp]
      exact e
    have HF : Hid (pairForB ps x = false) := by
      have e : pairForB ps x = false := by unfold pairForB; rw [hp]; rfl
      exact e
    clear hf hp
    have hz : w.heap.size + 1 < w3.heap.size := by omega
    have BN : Below w3.heap.size w3 (w3.alloc (.cells #[.string ⟨#[]⟩, .string ⟨#[]⟩] 81)) := (Below.refl _ w3).alloc (Nat.le_refl _) _
    have n0 : (w3.alloc (.cells #[.string ⟨#[]⟩, .string ⟨#[]⟩] 81)).cell? ⟨w.heap.size + 1, 0, none⟩ = some (.string ⟨#[]⟩) := by rw [BN.cell (by exact hz)]; exact q0
    have n1 : (w3.alloc (.cells #[.string ⟨#[]⟩, .string ⟨#[]⟩] 81)).cell? ⟨w.heap.size + 1, 1, none⟩ = some (.string ⟨#[]⟩) := by rw [BN.cell (by exact hz)]; exact q1
    have n2 : (w3.alloc (.cells #[.string ⟨#[]⟩, .string ⟨#[]⟩] 81)).frozen? ⟨w.heap.size + 1, 0, none⟩ = false := by rw [BN.frozen (by exact hz)]; exact q2
    have n3 : (w3.alloc (.cells #[.string ⟨#[]⟩, .string ⟨#[]⟩] 81)).frozen? ⟨w.heap.size + 1, 1, none⟩ = false := by rw [BN.frozen (by exact hz)]; exact q3
    have B4 := hide (B3.out.trans (BN.mono (by omega)))
    have hz1 : ¬ (w.heap.size + 1 = w3.heap.size) := by omega
    have hz2 : ¬ (w3.heap.size = w.heap.size + 1) := by omega
    clear BN
    go_wp2_with fail
    refine bodyPost_ret (v := .tuple #[.agg #[.string ⟨#[]⟩, .string ⟨#[]⟩], .bool false]) ?_ rfl ⟨by rw [HV.out, HF.out], ?_⟩
    · rw [results_cell_tmp rfl]
      go_simp
    · first
        | exact ((B3.out.setCell (by simp) _).setCell (by simp) _).alloc (by simp; omega) _
        | exact (((B3.out.setCell (by simp) _).alloc (by simp; omega) _).setCell (by simp) _)
        | exact (B4.out.setCell (by simp) _).setCell (by simp) _
        | trace_state
end Go.Proofs.Ytjibhdcnibgegaa
