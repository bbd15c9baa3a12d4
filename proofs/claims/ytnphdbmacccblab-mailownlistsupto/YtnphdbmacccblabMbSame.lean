import Derived.Test.YtnphdbmacccblabMrCalls
namespace Go.Proofs.Ytnphdbmacccblab
open Go.RowKit
/-- a list of letters that can be read -/
def LL (w : World) (v : Value) (L : List Lt) : Prop := ∃ (ba : Option Addr) (g cap : Nat), v = .slice ba L.length cap ∧ (0 < L.length → ba = some ⟨g, 0, none⟩ ∧ g < w.heap.size) ∧ ∀ q (h : q < L.length), w.cell? ⟨g, q * 4, none⟩ = some (.int .i64 L[q].id) ∧ w.cell? ⟨g, q * 4 + 1, none⟩ = some (.int .i64 L[q].fr) ∧ w.cell? ⟨g, q * 4 + 2, none⟩ = some (.int .i64 L[q].td) ∧ w.cell? ⟨g, q * 4 + 3, none⟩ = some (.string L[q].tx)
theorem LL.of_own {w : World} {base : Nat} {v : Value} {L : List Lt} (h : w.ownsRow base 53 4 v L.length (ltc L)) : LL w v L := by
  rcases Nat.eq_zero_or_pos L.length with h0 | h0
  · obtain ⟨ba, cap, rfl⟩ := own_sl h
    exact ⟨ba, 0, cap, rfl, fun h1 => by omega, fun q hq => by omega⟩
  · obtain ⟨g, cap, rfl⟩ := own_g h h0
    refine ⟨_, g, cap, rfl, fun _ => ⟨rfl, ?_⟩, fun q hq => ?_⟩
    · obtain ⟨cur, hc⟩ := own_blk h (k := g) rfl
      exact blk_lt hc
    · obtain ⟨e1, e2, e3, e4⟩ := ltc_at L q hq
      exact ⟨(h.cellAt (q * 4) (by omega)).trans e1, (h.cellAt (q * 4 + 1) (by omega)).trans e2, (h.cellAt (q * 4 + 2) (by omega)).trans e3, (h.cellAt (q * 4 + 3) (by omega)).trans e4⟩
theorem LsAt.own {w : World} {G : Nat} {L : List Lt} (h : LsAt w G L) (hL : L.length ≤ maxLen) : w.ownsRow 0 53 4 (.slice (some ⟨G, 0, none⟩) L.length L.length) L.length (ltc L) :=
  ⟨ltc_len L, .inr ⟨G, L.length, _, rfl, Nat.zero_le _, h, Nat.le_refl _, hL, by simp [ltc_len], List.take_of_length_le (by rw [List.toList_toArray, ltc_len]; exact Nat.le_refl _)⟩⟩
theorem LL.below {w w' : World} {v : Value} {L : List Lt} (h : LL w v L) (hb : Below w.heap.size w w') : LL w' v L := by
  obtain ⟨ba, g, cap, h1, h2, h3⟩ := h
  refine ⟨ba, g, cap, h1, fun h0 => ⟨(h2 h0).1, Nat.lt_of_lt_of_le (h2 h0).2 hb.size⟩, fun q hq => ?_⟩
  have hg := (h2 (by omega)).2
  obtain ⟨e1, e2, e3, e4⟩ := h3 q hq
  exact ⟨(hb.cell (by exact hg)).trans e1, (hb.cell (by exact hg)).trans e2, (hb.cell (by exact hg)).trans e3, (hb.cell (by exact hg)).trans e4⟩
set_option maxHeartbeats 8000000 in
set_option maxRecDepth 100000 in
set_option linter.unusedSimpArgs false in
set_option linter.unusedVariables false in
theorem sameLetters_eq {w : World} {va vb : Value} {L : List Lt} (ha : LL w va L) (hb : LL w vb L) (hL : L.length ≤ 1125899906842624) :
    Calls Try.prog 8 #[va, vb] w fun e w' => e = .returned (.bool true) ∧ Below w.heap.size w w' := by
  have HA := hide ha
  have HB := hide hb
  obtain ⟨ba, ga, capa, rfl, a1, _⟩ := ha
  obtain ⟨bb, gb, capb, rfl, b1, _⟩ := hb
  clear a1 b1
  go_enter Try.func8, Try.ntmps8
  go_wp2_with fail
  go_loopw [5] (fun vi wr => ∃ (q : Nat), q ≤ L.length ∧ vi = .int .i64 (q : Int) ∧ Below w.heap.size w wr) (fun vi _ => L.length - (intOf vi).toNat)
  case atStart => exact ⟨0, Nat.zero_le _, rfl, Below.refl _ _⟩
  case round =>
    obtain ⟨q, hq, rfl, hB⟩ := hrel
    have XA := HA.out.below hB
    have XB := HB.out.below hB
    have KB := hide hB
    clear hB
    by_cases hql : q < L.length
    case pos =>
      obtain ⟨ba', g, cap, e, h2, h3⟩ := XA
      simp only [Value.slice.injEq, true_and] at e
      obtain ⟨rfl, rfl⟩ := e
      obtain ⟨rfl, _⟩ := h2 (by omega)
      obtain ⟨x0, x1, x2, x3⟩ := h3 q hql
      obtain ⟨bb', g', cap', e, h2', h3'⟩ := XB
      simp only [Value.slice.injEq, true_and] at e
      obtain ⟨rfl, rfl⟩ := e
      obtain ⟨rfl, _⟩ := h2' (by omega)
      obtain ⟨y0, y1, y2, y3⟩ := h3' q hql
      clear h2 h3 h2' h3'
      generalize L[q] = xx at *
      have hqi : (q : Int) < (L.length : Int) := by omega
      go_wp2_with fail
      go_quiet (fail)
      have KD : Hid (Below w.heap.size w (wr.drewN nq)) := KB.out.trans ⟨rfl, rfl, rfl, Nat.le_refl _, fun _ _ => rfl⟩
      generalize wr.drewN nq = W at *
      clear x0 x1 x2 x3 y0 y1 y2 y3
      go_wp2_with fail
      go_roundw
      case rel => exact ⟨q + 1, by omega, by go_num, KD.out⟩
      case measure => simp [intOf]; omega
    case neg =>
      obtain rfl : q = L.length := by omega
      clear XA XB
      go_wp2_with fail
      go_ret
      exact ⟨rfl, KB.out⟩
end Go.Proofs.Ytnphdbmacccblab
