import Derived.Test.YtkfiaahgcljljaaTdBudget
import Derived.Maps.AppendAt
namespace Go.Proofs.Ytkfiaahgcljljaa
open Go.RowKit
/-- items, as cells -/
def itc (L : List (Int × Int)) : List Value := L.flatMap fun y => [.int .i64 y.1, .int .i64 y.2]
theorem itc_len (L : List (Int × Int)) : (itc L).length = L.length * 2 := by
  induction L with
  | nil => rfl
  | cons a r ih =>
    unfold itc at *
    simp only [List.flatMap_cons, List.length_append, List.length_cons, List.length_nil, ih]
    omega
theorem itc_append (a b : List (Int × Int)) : itc (a ++ b) = itc a ++ itc b := List.flatMap_append
theorem itc_at (L : List (Int × Int)) (q : Nat) (h : q < L.length) : (itc L)[q * 2]? = some (.int .i64 L[q].1) ∧ (itc L)[q * 2 + 1]? = some (.int .i64 L[q].2) := by
  induction L generalizing q with
  | nil => simp at h
  | cons a r ih =>
    cases q with
    | zero => exact ⟨rfl, rfl⟩
    | succ q =>
      have h' : q < r.length := by simpa using h
      obtain ⟨e1, e2⟩ := ih q h'
      unfold itc at *
      simp only [List.flatMap_cons, List.getElem_cons_succ]
      rw [show (q + 1) * 2 = q * 2 + 2 by omega, show q * 2 + 2 + 1 = (q * 2 + 1) + 2 by omega]
      exact ⟨e1, e2⟩
/-- how often an item stands in a list -/
def cnt (a b : Int) : List (Int × Int) → Nat
  | [] => 0
  | y :: r => (if y.1 = a ∧ y.2 = b then 1 else 0) + cnt a b r
theorem cnt_append (a b : Int) (L M : List (Int × Int)) : cnt a b (L ++ M) = cnt a b L + cnt a b M := by
  induction L with
  | nil => simp [cnt]
  | cons y r ih => simp only [List.cons_append, cnt, ih]; omega
theorem cnt_le (a b : Int) (L : List (Int × Int)) : cnt a b L ≤ L.length := by
  induction L with
  | nil => exact Nat.le_refl _
  | cons y r ih =>
    simp only [cnt, List.length_cons]
    split <;> omega
theorem cnt_take (a b : Int) (L : List (Int × Int)) (q : Nat) (h : q < L.length) : cnt a b (L.take (q + 1)) = cnt a b (L.take q) + (if L[q].1 = a ∧ L[q].2 = b then 1 else 0) := by
  rw [List.take_succ_eq_append_getElem h, cnt_append]
  simp [cnt]
/-- the document's budget in memory -/
structure RbAt (X : World) (base Q : Nat) (t s m : Int) (v : Value) (L : List (Int × Int)) : Prop where
  blk : X.heap[Q]? = some (.cells #[.int .i64 t, .int .i64 s, .int .i64 m, v] 88)
  row : X.ownsRow base 25 2 v L.length (itc L)
theorem RbAt.c0 {X : World} {base Q : Nat} {t s m : Int} {v : Value} {L : List (Int × Int)} (h : RbAt X base Q t s m v L) : X.cell? ⟨Q, 0, none⟩ = some (.int .i64 t) := by unfold World.cell?; rw [h.blk]; rfl
theorem RbAt.c1 {X : World} {base Q : Nat} {t s m : Int} {v : Value} {L : List (Int × Int)} (h : RbAt X base Q t s m v L) : X.cell? ⟨Q, 1, none⟩ = some (.int .i64 s) := by unfold World.cell?; rw [h.blk]; rfl
theorem RbAt.c2 {X : World} {base Q : Nat} {t s m : Int} {v : Value} {L : List (Int × Int)} (h : RbAt X base Q t s m v L) : X.cell? ⟨Q, 2, none⟩ = some (.int .i64 m) := by unfold World.cell?; rw [h.blk]; rfl
theorem RbAt.c3 {X : World} {base Q : Nat} {t s m : Int} {v : Value} {L : List (Int × Int)} (h : RbAt X base Q t s m v L) : X.cell? ⟨Q, 3, none⟩ = some v := by unfold World.cell?; rw [h.blk]; rfl
theorem own_slT {w : World} {base e sz n : Nat} {v : Value} {xs : List Value} (h : w.ownsRow base e sz v n xs) : ∃ ba cap, v = .slice ba n cap := by
  rcases h.2 with ⟨hv, hz⟩ | ⟨g, cap, cur, hv, _⟩
  · exact ⟨none, 0, by rw [hv, hz]⟩
  · exact ⟨_, _, hv⟩
theorem own_gT {w : World} {base e sz n : Nat} {v : Value} {xs : List Value} (h : w.ownsRow base e sz v n xs) (hn : 0 < n) : ∃ g cap, v = .slice (some ⟨g, 0, none⟩) n cap := by
  rcases h.2 with ⟨hv, hz⟩ | ⟨g, cap, cur, hv, _⟩
  · omega
  · exact ⟨_, _, hv⟩
theorem RbAt.below {X X' : World} {base Q : Nat} {t s m : Int} {v : Value} {L : List (Int × Int)} (h : RbAt X base Q t s m v L) (hb : Below X.heap.size X X') : RbAt X' base Q t s m v L :=
  ⟨(hb.block _ (blk_lt h.blk)).trans h.blk, h.row.kept (row := none) ⟨hb.os, hb.tape, hb.output, hb.size, fun i hi _ => hb.block i hi⟩ (by cases v.ownBlock <;> simp)⟩
theorem RbAt.drewN {X : World} {base Q : Nat} {t s m : Int} {v : Value} {L : List (Int × Int)} (h : RbAt X base Q t s m v L) (k : Nat) : RbAt (X.drewN k) base Q t s m v L := h.below ⟨rfl, rfl, rfl, Nat.le_refl _, fun _ _ => rfl⟩
theorem RbAt.item {X : World} {base Q : Nat} {t s m : Int} {g cap : Nat} {L : List (Int × Int)} (h : RbAt X base Q t s m (.slice (some ⟨g, 0, none⟩) L.length cap) L) (q : Nat) (hq : q < L.length) : X.cell? ⟨g, q * 2, none⟩ = some (.int .i64 L[q].1) ∧ X.cell? ⟨g, q * 2 + 1, none⟩ = some (.int .i64 L[q].2) := by
  obtain ⟨e1, e2⟩ := itc_at L q hq
  exact ⟨(h.row.cellAt (q * 2) (by omega)).trans e1, (h.row.cellAt (q * 2 + 1) (by omega)).trans e2⟩
set_option maxHeartbeats 8000000 in
set_option maxRecDepth 100000 in
set_option linter.unusedSimpArgs false in
set_option linter.unusedVariables false in
theorem times_any (X : World) (base Q : Nat) (t s m a b : Int) (v : Value) (L : List (Int × Int)) (h : RbAt X base Q t s m v L) (hL : L.length ≤ maxLen) :
    Calls Try.prog 40 #[.pointer (some ⟨Q, 0, none⟩), .agg #[.int .i64 a, .int .i64 b]] X fun e X' => e = .returned (.int .i64 (cnt a b L : Int)) ∧ Below X.heap.size X X' := by
  obtain ⟨WI, hWI⟩ : ∃ WI, WI = X.alloc (.cells #[.int .i64 a, .int .i64 b] 25) := ⟨_, rfl⟩
  obtain ⟨I, hI⟩ : ∃ I, I = X.heap.size := ⟨_, rfl⟩
  have II : Hid (ItAt WI I a b) := by subst hWI; subst hI; exact heap_last _ _
  have bI : Below X.heap.size X WI := by subst hWI; exact (Below.refl _ _).alloc (Nat.le_refl _) _
  have HR := hide (h.below bI)
  have BI := hide bI
  clear bI h
  have hmx : L.length ≤ 9223372036854775807 := by unfold maxLen at hL; omega
  have hcl := cnt_le a b L
  obtain ⟨ba, cap, hv⟩ := own_slT HR.out.row
  subst hv
  go_enter Try.func40, Try.ntmps40
  go_wp2_with fail
  rw [← hWI, ← hI]
  clear hWI hI
  go_loopw [5, 6] (fun vn vi wr => ∃ (q : Nat), q ≤ L.length ∧ vi = .int .i64 (q : Int) ∧ vn = .int .i64 (cnt a b (L.take q) : Int) ∧ ItAt wr I a b ∧ RbAt wr base Q t s m (.slice ba L.length cap) L ∧ Below X.heap.size X wr) (fun _ vi _ => L.length - (intOf vi).toNat)
  case atStart => exact ⟨0, Nat.zero_le _, rfl, by simp [cnt], II.out, HR.out, BI.out⟩
  case round =>
    clear II HR BI
    obtain ⟨q, hq, rfl, rfl, hI, hR, hB⟩ := hrel
    have II := hide hI
    have HR := hide hR
    have HB := hide hB
    clear hI hR hB
    have c3 := HR.out.c3
    have hcq := cnt_le a b (L.take q)
    rw [List.length_take] at hcq
    by_cases hql : q < L.length
    case pos =>
      obtain ⟨g, cap', hg⟩ := own_gT HR.out.row (by omega)
      have hg2 : ba = some ⟨g, 0, none⟩ ∧ cap = cap' := by
        simp only [Value.slice.injEq, true_and] at hg
        exact hg
      obtain ⟨rfl, rfl⟩ := hg2
      obtain ⟨x0, x1⟩ := HR.out.item q hql
      have i0 := II.out.c0
      have i1 := II.out.c1
      have hqi : (q : Int) < (L.length : Int) := by omega
      have HC := hide (cnt_take a b L q hql)
      generalize L[q].1 = yx at *
      generalize L[q].2 = yy at *
      by_cases he : yx = a ∧ yy = b
      case pos =>
        obtain ⟨rfl, rfl⟩ := he
        have hC := HC.out
        rw [if_pos ⟨rfl, rfl⟩] at hC
        go_wp2_with fail
        go_quiet (fail)
        replace II := hide (II.out.drewN nq)
        replace HR := hide (HR.out.drewN nq)
        replace HB : Hid (Below X.heap.size X (wr.drewN nq)) := HB.out.trans ⟨rfl, rfl, rfl, Nat.le_refl _, fun _ _ => rfl⟩
        generalize wr.drewN nq = W at *
        clear c3 x0 x1 i0 i1
        go_wp2_with fail
        go_roundw
        case rel => exact ⟨q + 1, by omega, by go_num, by rw [hC]; simp, II.out, HR.out, HB.out⟩
        case measure => simp [intOf]; omega
      case neg =>
        have hC := HC.out
        rw [if_neg he, Nat.add_zero] at hC
        by_cases hxa : yx = a
        case pos =>
          subst hxa
          have hyb : ¬ yy = b := fun e => he ⟨rfl, e⟩
          have hyb2 : (yy == b) = false := by simp; exact hyb
          clear he
          go_wp2_with fail
          go_quiet (fail)
          replace II := hide (II.out.drewN nq)
          replace HR := hide (HR.out.drewN nq)
          replace HB : Hid (Below X.heap.size X (wr.drewN nq)) := HB.out.trans ⟨rfl, rfl, rfl, Nat.le_refl _, fun _ _ => rfl⟩
          generalize wr.drewN nq = W at *
          clear c3 x0 x1 i0 i1
          go_wp2_with fail
          go_roundw
          case rel => exact ⟨q + 1, by omega, by go_num, by rw [hC]; simp, II.out, HR.out, HB.out⟩
          case measure => simp [intOf]; omega
        case neg =>
          have hxa2 : (yx == a) = false := by simp; exact hxa
          clear he
          go_wp2_with fail
          go_quiet (fail)
          replace II := hide (II.out.drewN nq)
          replace HR := hide (HR.out.drewN nq)
          replace HB : Hid (Below X.heap.size X (wr.drewN nq)) := HB.out.trans ⟨rfl, rfl, rfl, Nat.le_refl _, fun _ _ => rfl⟩
          generalize wr.drewN nq = W at *
          clear c3 x0 x1 i0 i1
          go_wp2_with fail
          go_roundw
          case rel => exact ⟨q + 1, by omega, by go_num, by rw [hC]; simp, II.out, HR.out, HB.out⟩
          case measure => simp [intOf]; omega
    case neg =>
      obtain rfl : q = L.length := by omega
      rw [List.take_length]
      go_wp2_with fail
      go_ret
      exact ⟨rfl, HB.out⟩
end Go.Proofs.Ytkfiaahgcljljaa
