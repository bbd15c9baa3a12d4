import Derived.Test.YtjibhdcnibgegaaRzFindG
import Derived.Test.YtjibhdcnibgegaaRyLaw
namespace Go.Proofs.Ytjibhdcnibgegaa
open Go.RowKit
/-- the hashes of a chunk's groups rise, and each group's pairs fit -/
theorem dcG_rise {m : Int} {x d : ByteArray} (h : dcE m x d = 0) : Rises (dcG m x d).length (fun i => ((dcG m x d).getD i default).1) ∧ ∀ g ∈ dcG m x d, errL g.2 = 0 := by
  by_cases hr : riE m x = 0
  · cases hk : dcOk m x d with
    | none => rw [(dc_no hr hk).1] at h; omega
    | some l =>
      rw [(dc_yes hr hk).2]
      obtain ⟨hm, hq, hau, _⟩ := ri_inv hr
      unfold dcOk at hk
      split at hk
      · rename_i l' q h'
        split at hk
        · simp only [Option.some.injEq] at hk
          subst hk
          obtain ⟨_, f2, _, f4⟩ := ch_facts _ _ _ (Nat.le_refl _) (dec_ch _ _ h')
          constructor
          · intro i hi
            have hi0 : i < l'.length := by omega
            have hu := allUp_at hau (i := i) (by omega)
            rw [Bool.or_eq_false_iff] at hu
            have e1 : (l'.getD i default).1 = rdeH m.toNat x i := by rw [List.getD_eq_getElem?_getD, List.getElem?_eq_getElem hi0]; exact (f4 i hi0).1
            have e2 : (l'.getD (i + 1) default).1 = rdeH m.toNat x (i + 1) := by rw [List.getD_eq_getElem?_getD, List.getElem?_eq_getElem hi]; exact (f4 (i + 1) hi).1
            show lessS (l'.getD i default).1 (l'.getD (i + 1) default).1 = true
            rw [e1, e2]
            rcases lessS_total (rdeH m.toNat x i) (rdeH m.toNat x (i + 1)) with e | e | e
            · rw [e, eq_beq] at hu; simp at hu
            · exact e
            · have := hu.1
              unfold lessS at e
              rw [e] at this; cases this
          · intro g hg
            obtain ⟨i, hi, rfl⟩ := List.getElem_of_mem hg
            exact (f4 i hi).2
        · cases hk
      · cases hk
  · rw [(dc_index hr).1] at h; exact absurd h hr
def slOf : Value → SQ
  | .slice a n c => (a, n, c)
  | _ => (none, 0, 0)
/-- groups in memory, as a list of hashes and slices -/
theorem GroupsAt.quads {w : World} {base : Nat} {v : Value} {gs : List GR} (h : GroupsAt w base v gs) : ∃ (qs : List GQ) (ao : Option Addr) (g cap : Nat), qs.length = gs.length ∧ v = .slice ao qs.length cap ∧ (0 < qs.length → ao = some ⟨g, 0, none⟩) ∧ (0 < qs.length → g < w.heap.size) ∧ LiesG g 0 w qs ∧
    ∀ i (hi : i < gs.length) (hq : i < qs.length), qs[i].1 = gs[i].1 ∧ w.ownsRow base 81 2 (.slice qs[i].2.1 qs[i].2.2.1 qs[i].2.2.2) gs[i].2.length (pc gs[i].2) := by
  obtain ⟨ts, rfl, h2, h3⟩ := h
  have hsl : ∀ t ∈ ts, t.2 = .slice (slOf t.2).1 (slOf t.2).2.1 (slOf t.2).2.2 := fun t ht => by
    obtain ⟨a, g, c, e, _⟩ := own_pairs (h3 t ht)
    rw [e]; rfl
  refine ⟨ts.map (fun t => (t.1.1, slOf t.2)), ?_⟩
  simp only [List.length_map]
  have hown : ∀ i (hi : i < (ts.map Prod.fst).length) (hq : i < (ts.map (fun t => (t.1.1, slOf t.2))).length), (ts.map (fun t => (t.1.1, slOf t.2)))[i].1 = (ts.map Prod.fst)[i].1 ∧ w.ownsRow base 81 2 (.slice (ts.map (fun t => (t.1.1, slOf t.2)))[i].2.1 (ts.map (fun t => (t.1.1, slOf t.2)))[i].2.2.1 (ts.map (fun t => (t.1.1, slOf t.2)))[i].2.2.2) (ts.map Prod.fst)[i].2.length (pc (ts.map Prod.fst)[i].2) := by
    intro i hi hq
    have hi' : i < ts.length := by simpa using hi
    rw [List.getElem_map, List.getElem_map]
    exact ⟨rfl, by rw [← hsl _ (List.getElem_mem hi')]; exact h3 _ (List.getElem_mem hi')⟩
  rcases h2.2 with ⟨rfl, h0⟩ | ⟨g, cap, cur, rfl, hg, hblk, _⟩
  · obtain rfl := List.length_eq_zero_iff.1 h0
    exact ⟨none, 0, 0, trivial, rfl, fun k => by simp at k, fun k => by simp at k, fun i hi => by simp at hi, fun i hi => by simp at hi⟩
  · refine ⟨some ⟨g, 0, none⟩, g, cap, trivial, rfl, fun _ => rfl, fun _ => row_lt h2, fun i hi => ?_, fun i hi hq => hown i (by simpa using hi) (by simpa using hq)⟩
    have hi' : i < ts.length := by simpa using hi
    rw [Nat.zero_add, List.getElem_map]
    refine ⟨?_, ?_⟩
    · rw [h2.cellAt (i * 2) (by omega), (gcell_at ts i hi').1]
    · rw [h2.cellAt (i * 2 + 1) (by omega), (gcell_at ts i hi').2, ← hsl _ (List.getElem_mem hi')]
/-- the value of a key under a hash -/
def lkV (gs : List GR) (h k : ByteArray) : Option ByteArray := match gs.find? (fun g => decide (g.1 = h)) with
  | some g => (pairFor g.2 k).map Prod.snd
  | none => none
theorem lk_some {gs : List GR} {h k : ByteArray} {i : Nat} (hr : Rises gs.length (fun t => (gs.getD t default).1)) (hi : i < gs.length) (e : gs[i].1 = h) : lkV gs h k = (pairFor gs[i].2 k).map Prod.snd := by
  have hf : gs.find? (fun g => decide (g.1 = h)) = some gs[i] := by
    rw [List.find?_eq_some_iff_getElem]
    refine ⟨by simpa using e, i, hi, rfl, fun j hj => ?_⟩
    simp only [Bool.not_eq_true', decide_eq_false_iff_not]
    intro e2
    have hj' : j < gs.length := by omega
    have := hr.inj (i := j) (j := i) hj' hi (by
      show (gs.getD j default).1 = (gs.getD i default).1
      rw [List.getD_eq_getElem?_getD, List.getElem?_eq_getElem hj', List.getD_eq_getElem?_getD, List.getElem?_eq_getElem hi, Option.getD_some, Option.getD_some, e2, e])
    omega
  unfold lkV; rw [hf]
theorem lk_none {gs : List GR} {h k : ByteArray} (hn : ∀ i (hi : i < gs.length), gs[i].1 ≠ h) : lkV gs h k = none := by
  have hf : gs.find? (fun g => decide (g.1 = h)) = none := by
    rw [List.find?_eq_none]
    intro p hp
    obtain ⟨i, hi, rfl⟩ := List.getElem_of_mem hp
    simpa using hn i hi
  unfold lkV; rw [hf]
/-- the group that find finds, or none -/
theorem found_group {w : World} {base : Nat} {gs : List GR} {qs : List GQ} {h k : ByteArray} (hr : Rises gs.length (fun t => (gs.getD t default).1)) (he : ∀ g ∈ gs, errL g.2 = 0) (hl : qs.length = gs.length)
    (hq : ∀ i (hi : i < gs.length) (hq : i < qs.length), qs[i].1 = gs[i].1 ∧ w.ownsRow base 81 2 (.slice qs[i].2.1 qs[i].2.2.1 qs[i].2.2.2) gs[i].2.length (pc gs[i].2)) :
    Rises qs.length (fun t => (qs.getD t default).1) ∧ ∃ (X : ByteArray) (ps : List KV) (ao : Option Addr) (b cap : Nat), grpForV qs h = .agg #[.string X, .slice ao ps.length cap] ∧ (0 < ps.length → ao = some ⟨b, 0, none⟩) ∧ (0 < ps.length → b < w.heap.size) ∧ LiesP b 0 w ps ∧ ps.length ≤ 512 ∧ Rises ps.length (fun i => (ps.getD i default).1) ∧ lkV gs h k = (pairFor ps k).map Prod.snd := by
  have hks : ∀ i, i < gs.length → (qs.getD i default).1 = (gs.getD i default).1 := fun i hi => by
    rw [gq_at (by omega), List.getD_eq_getElem?_getD, List.getElem?_eq_getElem hi, Option.getD_some]
    exact (hq i hi (by omega)).1
  have hrq : Rises qs.length (fun t => (qs.getD t default).1) := fun i hi => by
    have := hr i (by omega)
    simp only at this ⊢
    rw [hks i (by omega), hks (i + 1) (by omega)]; exact this
  refine ⟨hrq, ?_⟩
  by_cases hx : ∃ i, ∃ (hi : i < gs.length), gs[i].1 = h
  · obtain ⟨i, hi, e⟩ := hx
    have hiq : i < qs.length := by omega
    obtain ⟨q1, q2⟩ := hq i hi hiq
    obtain ⟨ao, g, cap, e2, a1, a2, a3⟩ := own_pairs q2
    have hf := fine (he _ (List.getElem_mem hi))
    refine ⟨qs[i].1, gs[i].2, ao, g, cap, ?_, a1, a2, a3, hf.1, keys_rise (he _ (List.getElem_mem hi)), lk_some hr hi e⟩
    unfold grpForV
    rw [grpFor_some hrq hiq (by rw [gq_at hiq, q1, e])]
    simp only
    rw [e2]
  · refine ⟨⟨#[]⟩, [], none, 0, 0, ?_, fun k => by simp at k, fun k => by simp at k, fun i hi => by simp at hi, by simp, fun i hi => by simp at hi, ?_⟩
    · unfold grpForV
      rw [grpFor_none (fun t ht e => hx ⟨t, by omega, by rw [gq_at ht, (hq t (by omega) ht).1] at e; exact e⟩)]
      rfl
    · rw [lk_none (fun i hi e => hx ⟨i, hi, e⟩)]; rfl
/-- what both Lookups answer -/
def lkE (m : Int) (x d h k : ByteArray) : Int := if dcE m x d = 0 then if (h.size : Int) = m then if 1 ≤ k.size ∧ k.size ≤ 255 then 0 else 32 else 34 else dcE m x d
def lkO (m : Int) (x d h k : ByteArray) : Option ByteArray := if lkE m x d h k = 0 then lkV (dcG m x d) h k else none
def lkA (m : Int) (x d h k : ByteArray) : Value := .tuple #[.string ((lkO m x d h k).getD ⟨#[]⟩), .bool (lkO m x d h k).isSome, .int .i64 (lkE m x d h k)]
theorem lk_err {m : Int} {x d h k : ByteArray} {E : Int} (e : lkE m x d h k = E) (hE : E ≠ 0) : lkA m x d h k = .tuple #[.string ⟨#[]⟩, .bool false, .int .i64 E] := by
  unfold lkA lkO; rw [e, if_neg hE]; rfl
theorem lk_ok {m : Int} {x d h k : ByteArray} (e : lkE m x d h k = 0) : lkA m x d h k = .tuple #[.string ((lkV (dcG m x d) h k).getD ⟨#[]⟩), .bool (lkV (dcG m x d) h k).isSome, .int .i64 0] := by
  unfold lkA lkO; rw [e, if_pos rfl]
end Go.Proofs.Ytjibhdcnibgegaa
