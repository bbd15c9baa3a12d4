import Derived.Test.YtkfiaahgcljljaaTeFail2
namespace Go.Proofs.Ytkfiaahgcljljaa
open Go.RowKit
/-- the list without an item -/
def flt (a b : Int) (L : List (Int × Int)) : List (Int × Int) := L.filter fun y => !(decide (y.1 = a) && decide (y.2 = b))
theorem flt_take (a b : Int) (L : List (Int × Int)) (q : Nat) (h : q < L.length) : flt a b (L.take (q + 1)) = flt a b (L.take q) ++ (if L[q].1 = a ∧ L[q].2 = b then [] else [(L[q].1, L[q].2)]) := by
  unfold flt
  rw [List.take_succ_eq_append_getElem h, List.filter_append]
  congr 1
  by_cases e : L[q].1 = a ∧ L[q].2 = b
  · simp [e.1, e.2]
  · rw [if_neg e]
    have : (!(decide (L[q].1 = a) && decide (L[q].2 = b))) = true := by
      by_cases e1 : L[q].1 = a
      · have e2 : ¬ L[q].2 = b := fun e2 => e ⟨e1, e2⟩
        simp [e1, e2]
      · simp [e1]
    rw [List.filter_cons, if_pos this]
    rfl
theorem flt_len (a b : Int) (L : List (Int × Int)) : (flt a b L).length ≤ L.length := List.length_filter_le _ _
theorem cnt_flt_self (a b : Int) (L : List (Int × Int)) : cnt a b (flt a b L) = 0 := by
  induction L with
  | nil => rfl
  | cons y r ih =>
    unfold flt at *
    rw [List.filter_cons]
    split
    · rename_i h
      simp only [cnt, ih]
      rw [if_neg]
      rintro ⟨rfl, rfl⟩
      simp at h
    · exact ih
theorem cnt_flt_other {a b x y : Int} (h : ¬ (x = a ∧ y = b)) (L : List (Int × Int)) : cnt x y (flt a b L) = cnt x y L := by
  induction L with
  | nil => rfl
  | cons z r ih =>
    unfold flt at *
    rw [List.filter_cons]
    split
    · simp only [cnt, ih]
    · rename_i hz
      simp only [cnt, ih]
      rw [if_neg, Nat.zero_add]
      rintro ⟨rfl, rfl⟩
      simp at hz
      exact h hz
theorem itc_one (a b : Int) : itc [(a, b)] = [.int .i64 a, .int .i64 b] := rfl
theorem rbset {X : World} {base N Q : Nat} {t s m : Int} {v v' : Value} {L L' : List (Int × Int)} (h : RbAt X base Q t s m v L) (hN : base ≤ N) (o : X.ownsRow N 25 2 v' L'.length (itc L')) : RbAt (X.setCell ⟨Q, 3, none⟩ v') base Q t s m v' L' := by
  refine ⟨heap_setCell _ _ _ _ _ _ _ h.blk, ?_⟩
  have k := o.kept (row := some Q) (w' := X.setCell ⟨Q, 3, none⟩ v') ⟨rfl, rfl, rfl, by rw [World.size_setCell]; exact Nat.le_refl _, fun i _ hn => Below.heap_setCell _ _ _ i (fun e => hn (by rw [e]))⟩ (Or.inr (fun e => own_ne o h.blk (by decide) e.symm))
  refine ⟨k.1, ?_⟩
  rcases k.2 with e | ⟨g, cap, cur, e1, e2, e3⟩
  · exact Or.inl e
  · exact Or.inr ⟨g, cap, cur, e1, Nat.le_trans hN e2, e3⟩
theorem near_new {X : World} {N n e sz : Nat} {W : World} {v v' : Value} {xs : List Value} (o : W.ownsRow N e sz v' n xs) (hN : X.heap.size ≤ N) : Near X v v' := by
  intro g hg
  rcases o.2 with ⟨rfl, _⟩ | ⟨g', cap, cur, rfl, hb, _⟩
  · simp [Value.ownBlock] at hg
  · simp [Value.ownBlock] at hg
    subst hg
    exact Or.inr (Nat.le_trans hN hb)
set_option maxHeartbeats 8000000 in
set_option maxRecDepth 100000 in
set_option linter.unusedSimpArgs false in
set_option linter.unusedVariables false in
theorem rbclear_nil (X : World) (a b : Int) : Calls Try.prog 37 #[.pointer none, .agg #[.int .i64 a, .int .i64 b]] X fun e X' => e = .returned (.int .i64 2) ∧ Below X.heap.size X X' := by
  go_enter Try.func37, Try.ntmps37
  go_wp2_with fail
  go_ret
  exact ⟨rfl, (Below.refl _ _).alloc (Nat.le_refl _) _⟩
set_option maxHeartbeats 8000000 in
set_option maxRecDepth 100000 in
set_option linter.unusedSimpArgs false in
set_option linter.unusedVariables false in
theorem rbclear_any (X : World) (base Q : Nat) (t s m a b : Int) (v : Value) (L : List (Int × Int)) (h : RbAt X base Q t s m v L) (hL : L.length ≤ 8000000000000) (hbase : base ≤ X.heap.size) :
    Calls Try.prog 37 #[.pointer (some ⟨Q, 0, none⟩), .agg #[.int .i64 a, .int .i64 b]] X fun e X' => ∃ v', e = .returned (.int .i64 0) ∧ RbAt X' base Q t s m v' (flt a b L) ∧ Gr2 X X' Q v ∧ Near X v v' := by
  obtain ⟨WI, hWI⟩ : ∃ WI, WI = X.alloc (.cells #[.int .i64 a, .int .i64 b] 25) := ⟨_, rfl⟩
  obtain ⟨I, hI⟩ : ∃ I, I = X.heap.size := ⟨_, rfl⟩
  have II : Hid (ItAt WI I a b) := by subst hWI; subst hI; exact heap_last _ _
  have bI : Below X.heap.size X WI := by subst hWI; exact (Below.refl _ _).alloc (Nat.le_refl _) _
  have HR := hide (h.below bI)
  have BI := hide bI
  clear bI h
  have hmx : L.length ≤ 9223372036854775807 := by omega
  obtain ⟨ba, cap, hv⟩ := own_slT HR.out.row
  subst hv
  obtain ⟨i0, hi0, hz0, hz1, hz2⟩ := info_partsT infoIt
  go_enter Try.func37, Try.ntmps37
  go_wp2_with fail
  rw [← hWI, ← hI]
  clear hWI hI
  go_loopw [5, 6] (fun vr vi wr => ∃ (q : Nat), q ≤ L.length ∧ vi = .int .i64 (q : Int) ∧ wr.ownsRow WI.heap.size 25 2 vr (flt a b (L.take q)).length (itc (flt a b (L.take q))) ∧ Below WI.heap.size WI wr) (fun _ vi _ => L.length - (intOf vi).toNat)
  case atStart => exact ⟨0, Nat.zero_le _, rfl, World.ownsRow_nil _ _ _ _, Below.refl _ _⟩
  case round =>
    obtain ⟨q, hq, rfl, hO, hB⟩ := hrel
    have OW := hide hO
    have HB := hide hB
    have IW : Hid (ItAt wr I a b) := (hB.block _ (blk_lt II.out)).trans II.out
    have HW := hide (HR.out.below hB)
    clear hO hB
    have c3 := HW.out.c3
    by_cases hql : q < L.length
    case pos =>
      obtain ⟨g, cap', hg⟩ := own_gT HW.out.row (by omega)
      have hg2 : ba = some ⟨g, 0, none⟩ ∧ cap = cap' := by
        simp only [Value.slice.injEq, true_and] at hg
        exact hg
      obtain ⟨rfl, rfl⟩ := hg2
      clear hg
      obtain ⟨x0, x1⟩ := HW.out.item q hql
      have i0c := IW.out.c0
      have i1c := IW.out.c1
      have hqi : (q : Int) < (L.length : Int) := by omega
      have HC := hide (flt_take a b L q hql)
      have hlen : (flt a b (L.take q)).length ≤ q := Nat.le_trans (flt_len _ _ _) (by rw [List.length_take]; omega)
      generalize L[q].1 = yx at *
      generalize L[q].2 = yy at *
      by_cases he : yx = a ∧ yy = b
      case pos =>
        obtain ⟨rfl, rfl⟩ := he
        have hC := HC.out
        rw [if_pos ⟨rfl, rfl⟩, List.append_nil] at hC
        rw [← hC] at OW
        have HC := hide hC
        clear hC hlen
        go_wp2_with fail
        go_quiet (fail)
        replace OW : Hid ((wr.drewN nq).ownsRow WI.heap.size 25 2 u5 (flt yx yy (L.take (q + 1))).length (itc (flt yx yy (L.take (q + 1))))) := OW.out
        replace HB : Hid (Below WI.heap.size WI (wr.drewN nq)) := HB.out.trans ⟨rfl, rfl, rfl, Nat.le_refl _, fun _ _ => rfl⟩
        generalize wr.drewN nq = W at *
        clear c3 x0 x1 i0c i1c
        go_wp2_with fail
        go_roundw
        case rel => exact ⟨q + 1, by omega, by go_num, OW.out, HB.out⟩
        case measure => simp [intOf]; omega
      case neg =>
        have hC := HC.out
        rw [if_neg he] at hC
        have HC2 := hide hC
        clear hC HC
        generalize flt a b (L.take q) = Z at *
        by_cases hxa : yx = a
        case pos =>
          subst hxa
          have hyb : ¬ yy = b := fun e => he ⟨rfl, e⟩
          have hyb2 : (yy == b) = false := by simp; exact hyb
          clear he
          go_wp2_with fail
          go_quiet (fail)
          replace OW : Hid ((wr.drewN nq).ownsRow WI.heap.size 25 2 u5 Z.length (itc Z)) := OW.out
          replace HB : Hid (Below WI.heap.size WI (wr.drewN nq)) := HB.out.trans ⟨rfl, rfl, rfl, Nat.le_refl _, fun _ _ => rfl⟩
          replace HW := hide (HW.out.drewN nq)
          have x0' : (wr.drewN nq).cell? ⟨g, q * 2, none⟩ = some (.int .i64 yx) := x0
          have x1' : (wr.drewN nq).cell? ⟨g, q * 2 + 1, none⟩ = some (.int .i64 yy) := x1
          have sz : Hid (WI.heap.size ≤ (wr.drewN nq).heap.size) := HB.out.size
          clear c3 x0 x1 i0c i1c IW
          generalize wr.drewN nq = W at *
          have c3 := HW.out.c3
          go_wp2_with (at_builtin; refine wpList_append_own _ rfl _ _ 26 rfl WI.heap.size 25 i0 _ 2 16 Try.underlying26 hi0 hz0 hz1 hz2 rfl (by decide) _ _ _ rfl (OW.out.alloc _) ⟨W.heap.size, 0, none⟩ 1 1 (itc [(yx, yy)]) rfl rfl (it_cells W yx yy) (it_one _ _) (by unfold maxLen; omega) (by omega) (by have := sz.out; simp; omega) ?_; intro v2 w2 o2 g2 n2; clear n2)
          have BN : Hid (Below WI.heap.size WI w2) := (HB.out.alloc sz.out _).grown g2 (by have := sz.out; simp; omega) (fun j hj => (OW.out.lt j hj).1)
          go_roundw
          case rel =>
            refine ⟨q + 1, by omega, by go_num, ?_, BN.out⟩
            rw [HC2.out, itc_append, List.length_append]
            exact o2
          case measure => simp [intOf]; omega
        case neg =>
          have hxa2 : (yx == a) = false := by simp; exact hxa
          clear he
          go_wp2_with fail
          go_quiet (fail)
          replace OW : Hid ((wr.drewN nq).ownsRow WI.heap.size 25 2 u5 Z.length (itc Z)) := OW.out
          replace HB : Hid (Below WI.heap.size WI (wr.drewN nq)) := HB.out.trans ⟨rfl, rfl, rfl, Nat.le_refl _, fun _ _ => rfl⟩
          replace HW := hide (HW.out.drewN nq)
          have x0' : (wr.drewN nq).cell? ⟨g, q * 2, none⟩ = some (.int .i64 yx) := x0
          have x1' : (wr.drewN nq).cell? ⟨g, q * 2 + 1, none⟩ = some (.int .i64 yy) := x1
          have sz : Hid (WI.heap.size ≤ (wr.drewN nq).heap.size) := HB.out.size
          clear c3 x0 x1 i0c i1c IW
          generalize wr.drewN nq = W at *
          have c3 := HW.out.c3
          go_wp2_with (at_builtin; refine wpList_append_own _ rfl _ _ 26 rfl WI.heap.size 25 i0 _ 2 16 Try.underlying26 hi0 hz0 hz1 hz2 rfl (by decide) _ _ _ rfl (OW.out.alloc _) ⟨W.heap.size, 0, none⟩ 1 1 (itc [(yx, yy)]) rfl rfl (it_cells W yx yy) (it_one _ _) (by unfold maxLen; omega) (by omega) (by have := sz.out; simp; omega) ?_; intro v2 w2 o2 g2 n2; clear n2)
          have BN : Hid (Below WI.heap.size WI w2) := (HB.out.alloc sz.out _).grown g2 (by have := sz.out; simp; omega) (fun j hj => (OW.out.lt j hj).1)
          go_roundw
          case rel =>
            refine ⟨q + 1, by omega, by go_num, ?_, BN.out⟩
            rw [HC2.out, itc_append, List.length_append]
            exact o2
          case measure => simp [intOf]; omega
    case neg =>
      obtain rfl : q = L.length := by omega
      rw [List.take_length] at OW
      obtain ⟨bz, cz, hz⟩ := own_slT OW.out
      subst hz
      have hqi : ¬ (L.length : Int) < (L.length : Int) := by omega
      have fz : wr.frozen? ⟨Q, 3, none⟩ = false := by unfold World.frozen?; rw [HW.out.blk]; simp
      have HZ := hide (rbset HW.out (Nat.le_trans hbase BI.out.size) OW.out)
      have GZ := hide ((Gr2.of_below Q (.slice ba L.length cap) (BI.out.trans (HB.out.mono BI.out.size))).set (j := 3) (.slice bz (flt a b L).length cz))
      have NR := hide (near_new (X := X) (v := .slice ba L.length cap) OW.out BI.out.size)
      go_wp2_with fail
      go_ret
      first | exact ⟨rfl, _, HZ.out, GZ.out, NR.out⟩ | exact ⟨_, HZ.out, GZ.out, NR.out⟩
end Go.Proofs.Ytkfiaahgcljljaa
