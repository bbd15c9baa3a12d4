import Derived.Test.YtnphdbmacccblabMrPlain
namespace Go.Proofs.Ytnphdbmacccblab
open Go.RowKit
/-- the document's mail in memory -/
structure RfX (w : World) (S : Nat → Prop) (Q : Nat) (vA vG vT : Value) (lim : Int) (A : AB) (T : TN) : Prop where
  blk : w.heap[Q]? = some (.cells #[.int .i64 lim, vA, vG, vT] 57)
  pr : PrX w S vA vG A
  rT : w.ownsRow 0 90 3 vT T.length (tnc T)
  sQ : S Q
  sT : ∀ k, vT.ownBlock = some k → S k
  sb : ∀ k, S k → k < w.heap.size
section
variable {w w' : World} {S : Nat → Prop} {Q : Nat} {vA vG vT : Value} {lim : Int} {A : AB} {T : TN}
theorem RfX.c0 (h : RfX w S Q vA vG vT lim A T) : w.cell? ⟨Q, 0, none⟩ = some (.int .i64 lim) := by unfold World.cell?; rw [h.blk]; rfl
theorem RfX.c1 (h : RfX w S Q vA vG vT lim A T) : w.cell? ⟨Q, 1, none⟩ = some vA := by unfold World.cell?; rw [h.blk]; rfl
theorem RfX.c2 (h : RfX w S Q vA vG vT lim A T) : w.cell? ⟨Q, 2, none⟩ = some vG := by unfold World.cell?; rw [h.blk]; rfl
theorem RfX.c3 (h : RfX w S Q vA vG vT lim A T) : w.cell? ⟨Q, 3, none⟩ = some vT := by unfold World.cell?; rw [h.blk]; rfl
theorem RfX.fz (h : RfX w S Q vA vG vT lim A T) (j : Nat) : w.frozen? ⟨Q, j, none⟩ = false := by unfold World.frozen?; rw [h.blk]; simp
theorem RfX.kp {U : Nat → Prop} (h : RfX w S Q vA vG vT lim A T) (hk : Kp w w' U) (hd : ∀ k, S k → ¬ U k) : RfX w' S Q vA vG vT lim A T :=
  ⟨(hk.block _ (blk_lt h.blk) (hd _ h.sQ)).trans h.blk, h.pr.kp hk hd, own_kp h.rT hk (fun k e => hd _ (h.sT k e)), h.sQ, h.sT, fun k e => Nat.lt_of_lt_of_le (h.sb k e) hk.size⟩
theorem RfX.below (h : RfX w S Q vA vG vT lim A T) (hb : Below w.heap.size w w') : RfX w' S Q vA vG vT lim A T := h.kp (Kp.of_below hb non) (fun _ _ f => f)
theorem RfX.drew (h : RfX w S Q vA vG vT lim A T) : RfX w.drew S Q vA vG vT lim A T := h.below ⟨rfl, rfl, rfl, Nat.le_refl _, fun _ _ => rfl⟩
theorem RfX.alloc (h : RfX w S Q vA vG vT lim A T) (o : Obj) : RfX (w.alloc o) S Q vA vG vT lim A T := h.below ((Below.refl _ w).alloc (Nat.le_refl _) o)
theorem RfX.tn {g cap : Nat} (h : RfX w S Q vA vG (.slice (some ⟨g, 0, none⟩) T.length cap) lim A T) (q : Nat) (hq : q < T.length) : w.cell? ⟨g, q * 3, none⟩ = some (.int .i64 T[q].1) ∧ w.cell? ⟨g, q * 3 + 1, none⟩ = some (.int .i64 T[q].2.1) ∧ w.cell? ⟨g, q * 3 + 2, none⟩ = some (.bool T[q].2.2) := by
  obtain ⟨e1, e2, e3⟩ := tnc_at T q hq
  exact ⟨(h.rT.cellAt (q * 3) (by omega)).trans e1, (h.rT.cellAt (q * 3 + 1) (by omega)).trans e2, (h.rT.cellAt (q * 3 + 2) (by omega)).trans e3⟩
end
set_option maxHeartbeats 4000000 in
set_option maxRecDepth 100000 in
theorem address_any (n : Int) (w : World) : Calls Try.prog 41 #[.int .i64 n] w fun e w' => e = .returned (.bool (adr n)) ∧ w = w' := by
  unfold adr
  by_cases h1 : 0 ≤ n
  · go_enter Try.func41, Try.ntmps41
    go_wp2_with fail
    go_ret
    exact ⟨by simp [h1], rfl⟩
  · go_enter Try.func41, Try.ntmps41
    go_wp2_with fail
    go_ret
    exact ⟨by simp; omega, rfl⟩
set_option maxHeartbeats 8000000 in
set_option maxRecDepth 100000 in
set_option linter.unusedSimpArgs false in
set_option linter.unusedVariables false in
theorem rcut_any {w : World} {S : Nat → Prop} {Q : Nat} {vA vG vT : Value} {lim : Int} {A : AB} {T : TN} (h : RfX w S Q vA vG vT lim A T) (hT : T.length ≤ 1125899906842624) (a b : Int) :
    Calls Try.prog 42 #[.pointer (some ⟨Q, 0, none⟩), .int .i64 a, .int .i64 b] w fun e w' => e = .returned (.bool (cutF T a b)) ∧ Below w.heap.size w w' := by
  obtain ⟨ba, cap, rfl⟩ := own_sl h.rT
  have HR := hide h
  clear h
  go_enter Try.func42, Try.ntmps42
  go_wp2_with fail
  go_loopw [7, 8] (fun vn vi wr => ∃ (q : Nat), q ≤ T.length ∧ vi = .int .i64 (q : Int) ∧ vn = .bool (cutF (T.take q) a b) ∧ Below w.heap.size w wr) (fun _ vi _ => T.length - (intOf vi).toNat)
  case atStart => exact ⟨0, Nat.zero_le _, rfl, by simp [cutF], Below.refl _ _⟩
  case round =>
    obtain ⟨q, hq, rfl, rfl, hB⟩ := hrel
    have HX := hide (HR.out.below hB)
    have HB := hide hB
    clear hB
    have c3 := HX.out.c3
    by_cases hql : q < T.length
    case pos =>
      obtain ⟨g, cap', hg⟩ := own_g HX.out.rT (by omega)
      have hg2 : ba = some ⟨g, 0, none⟩ ∧ cap = cap' := by
        simp only [Value.slice.injEq, true_and] at hg
        exact hg
      obtain ⟨rfl, rfl⟩ := hg2
      clear hg
      obtain ⟨x0, x1, x2⟩ := HX.out.tn q hql
      have HC := hide (cutF_take (T := T) a b q hql)
      have hqi : (q : Int) < (T.length : Int) := by omega
      generalize T[q] = tt at *
      obtain ⟨y1, y2, y3⟩ := tt
      simp only [] at x0 x1 x2
      by_cases h0 : y1 = a
      case pos =>
        by_cases h1 : y2 = b
        case pos =>
          have e0 : (y1 == a) = true := by simpa using h0
          have e1 : (y2 == b) = true := by simpa using h1
          have d0 : decide (y1 = a) = true := decide_eq_true h0
          have d1 : decide (y2 = b) = true := decide_eq_true h1
          have hO : onLk (y1, y2, y3) a b = true := by unfold onLk; simp only [d0, d1]; rfl
          clear d0 d1
          have hC := HC.out
          rw [hO] at hC
          have HC := hide hC
          clear hC hO h0 h1
          go_wp2_with fail
          go_roundw
          case rel => exact ⟨q + 1, by omega, by go_num, by rw [HC.out]; simp, HB.out.alloc HB.out.size _⟩
          case measure => simp [intOf]; omega
        case neg =>
          by_cases h2 : y1 = b
          case pos =>
            by_cases h3 : y2 = a
            case pos =>
              have e0 : (y1 == a) = true := by simpa using h0
              have e1 : (y2 == b) = false := by simpa using h1
              have e2 : (y1 == b) = true := by simpa using h2
              have e3 : (y2 == a) = true := by simpa using h3
              have d0 : decide (y1 = a) = true := decide_eq_true h0
              have d1 : decide (y2 = b) = false := decide_eq_false h1
              have d2 : decide (y1 = b) = true := decide_eq_true h2
              have d3 : decide (y2 = a) = true := decide_eq_true h3
              have hO : onLk (y1, y2, y3) a b = true := by unfold onLk; simp only [d0, d1, d2, d3]; rfl
              clear d0 d1 d2 d3
              have hC := HC.out
              rw [hO] at hC
              have HC := hide hC
              clear hC hO h0 h1 h2 h3
              go_wp2_with fail
              go_roundw
              case rel => exact ⟨q + 1, by omega, by go_num, by rw [HC.out]; simp, HB.out.alloc HB.out.size _⟩
              case measure => simp [intOf]; omega
            case neg =>
              have e0 : (y1 == a) = true := by simpa using h0
              have e1 : (y2 == b) = false := by simpa using h1
              have e2 : (y1 == b) = true := by simpa using h2
              have e3 : (y2 == a) = false := by simpa using h3
              have d0 : decide (y1 = a) = true := decide_eq_true h0
              have d1 : decide (y2 = b) = false := decide_eq_false h1
              have d2 : decide (y1 = b) = true := decide_eq_true h2
              have d3 : decide (y2 = a) = false := decide_eq_false h3
              have hO : onLk (y1, y2, y3) a b = false := by unfold onLk; simp only [d0, d1, d2, d3]; rfl
              clear d0 d1 d2 d3
              have hC := HC.out
              rw [hO] at hC
              have HC := hide hC
              clear hC hO h0 h1 h2 h3
              go_wp2_with fail
              go_roundw
              case rel => exact ⟨q + 1, by omega, by go_num, by rw [HC.out]; simp, HB.out.alloc HB.out.size _⟩
              case measure => simp [intOf]; omega
          case neg =>
            have e0 : (y1 == a) = true := by simpa using h0
            have e1 : (y2 == b) = false := by simpa using h1
            have e2 : (y1 == b) = false := by simpa using h2
            have d0 : decide (y1 = a) = true := decide_eq_true h0
            have d1 : decide (y2 = b) = false := decide_eq_false h1
            have d2 : decide (y1 = b) = false := decide_eq_false h2
            have hO : onLk (y1, y2, y3) a b = false := by unfold onLk; simp only [d0, d1, d2]; rfl
            clear d0 d1 d2
            have hC := HC.out
            rw [hO] at hC
            have HC := hide hC
            clear hC hO h0 h1 h2
            go_wp2_with fail
            go_roundw
            case rel => exact ⟨q + 1, by omega, by go_num, by rw [HC.out]; simp, HB.out.alloc HB.out.size _⟩
            case measure => simp [intOf]; omega
      case neg =>
        by_cases h2 : y1 = b
        case pos =>
          by_cases h3 : y2 = a
          case pos =>
            have e0 : (y1 == a) = false := by simpa using h0
            have e2 : (y1 == b) = true := by simpa using h2
            have e3 : (y2 == a) = true := by simpa using h3
            have d0 : decide (y1 = a) = false := decide_eq_false h0
            have d2 : decide (y1 = b) = true := decide_eq_true h2
            have d3 : decide (y2 = a) = true := decide_eq_true h3
            have hO : onLk (y1, y2, y3) a b = true := by unfold onLk; simp only [d0, d2, d3]; rfl
            clear d0 d2 d3
            have hC := HC.out
            rw [hO] at hC
            have HC := hide hC
            clear hC hO h0 h2 h3
            go_wp2_with fail
            go_roundw
            case rel => exact ⟨q + 1, by omega, by go_num, by rw [HC.out]; simp, HB.out.alloc HB.out.size _⟩
            case measure => simp [intOf]; omega
          case neg =>
            have e0 : (y1 == a) = false := by simpa using h0
            have e2 : (y1 == b) = true := by simpa using h2
            have e3 : (y2 == a) = false := by simpa using h3
            have d0 : decide (y1 = a) = false := decide_eq_false h0
            have d2 : decide (y1 = b) = true := decide_eq_true h2
            have d3 : decide (y2 = a) = false := decide_eq_false h3
            have hO : onLk (y1, y2, y3) a b = false := by unfold onLk; simp only [d0, d2, d3]; rfl
            clear d0 d2 d3
            have hC := HC.out
            rw [hO] at hC
            have HC := hide hC
            clear hC hO h0 h2 h3
            go_wp2_with fail
            go_roundw
            case rel => exact ⟨q + 1, by omega, by go_num, by rw [HC.out]; simp, HB.out.alloc HB.out.size _⟩
            case measure => simp [intOf]; omega
        case neg =>
          have e0 : (y1 == a) = false := by simpa using h0
          have e2 : (y1 == b) = false := by simpa using h2
          have d0 : decide (y1 = a) = false := decide_eq_false h0
          have d2 : decide (y1 = b) = false := decide_eq_false h2
          have hO : onLk (y1, y2, y3) a b = false := by unfold onLk; simp only [d0, d2]; rfl
          clear d0 d2
          have hC := HC.out
          rw [hO] at hC
          have HC := hide hC
          clear hC hO h0 h2
          go_wp2_with fail
          go_roundw
          case rel => exact ⟨q + 1, by omega, by go_num, by rw [HC.out]; simp, HB.out.alloc HB.out.size _⟩
          case measure => simp [intOf]; omega
    case neg =>
      obtain rfl : q = T.length := by omega
      go_wp2_with fail
      go_ret
      exact ⟨by rw [List.take_length]; rfl, HB.out⟩
end Go.Proofs.Ytnphdbmacccblab
