import Derived.Test.YtkfiaahgcljljaaTeClear
import Derived.Test.YtkfiaahgcljljaaTdFail
namespace Go.Proofs.Ytkfiaahgcljljaa
open Go.RowKit
set_option maxHeartbeats 8000000 in
set_option maxRecDepth 100000 in
set_option linter.unusedSimpArgs false in
set_option linter.unusedVariables false in
theorem rbleft_any (X : World) (base Q : Nat) (t s m a b : Int) (v : Value) (L : List (Int × Int)) (h : RbAt X base Q t s m v L) (hL : L.length ≤ 8000000000000) (hf : BFits t s m) (hc : (cnt a b L : Int) ≤ t) :
    Calls Try.prog 36 #[.pointer (some ⟨Q, 0, none⟩), .agg #[.int .i64 a, .int .i64 b]] X fun e X' => e = .returned (.int .i64 (t - (cnt a b L : Int))) ∧ Below X.heap.size X X' := by
  obtain ⟨WI, hWI⟩ : ∃ WI, WI = X.alloc (.cells #[.int .i64 a, .int .i64 b] 25) := ⟨_, rfl⟩
  obtain ⟨I, hI⟩ : ∃ I, I = X.heap.size := ⟨_, rfl⟩
  have II : Hid (ItAt WI I a b) := by subst hWI; subst hI; exact heap_last _ _
  have bI : Below X.heap.size X WI := by subst hWI; exact (Below.refl _ _).alloc (Nat.le_refl _) _
  have HR := hide (h.below bI)
  have BI := hide bI
  clear bI h
  have t1 := hf.t1
  have t2 := hf.t2
  have TI := hide (times_any WI.drew base Q t s m a b v L (HR.out.drewN 1) (by unfold maxLen; omega))
  have c0n : 0 ≤ (cnt a b L : Int) := by omega
  generalize (cnt a b L : Int) = c at *
  have ew := wrap_in (x := t - c) (by omega) (by omega)
  have CC : Hid (∀ Y, Below WI.heap.size WI Y → Y.cell? ⟨Q, 0, none⟩ = some (.int .i64 t) ∧ Y.cell? ⟨I, 0, none⟩ = some (.int .i64 a) ∧ Y.cell? ⟨I, 1, none⟩ = some (.int .i64 b)) := fun Y hY => by
    have iz : ItAt Y I a b := (hY.block _ (blk_lt II.out)).trans II.out
    exact ⟨(HR.out.below hY).c0, iz.c0, iz.c1⟩
  go_enter Try.func36, Try.ntmps36
  go_wp2_with fail
  rw [← hWI, ← hI]
  clear hWI hI
  refine wp_region_held_drew (S := fun Y => Below WI.heap.size WI Y) (by kernel_rfl) ((Below.refl _ _).drew) (fun hHeld => ?_)
  refine wpAnyH_take (i := 0) (v := (.pointer (some ⟨Q, 0, none⟩))) rfl (by kernel_rfl) (by kernel_rfl) (by kernel_rfl) (fun _ _ _ h => h) (Or.inl ⟨by rfl, ?_⟩) (by assumption) ?_
  · intro w' hSw
    (try dsimp only at hSw)
    go_simp
  (try simp only [Act.put, List.setIfInBounds_toArray, List.set_cons_zero, List.set_cons_succ])
  refine wpAnyH_take (i := 1) (v := (.pointer (some ⟨Q, 0, none⟩))) rfl (by kernel_rfl) (by kernel_rfl) (by kernel_rfl) (fun _ _ _ h => h) (Or.inl ⟨by rfl, ?_⟩) (by assumption) ?_
  · intro w' hSw
    (try dsimp only at hSw)
    go_simp
  (try simp only [Act.put, List.setIfInBounds_toArray, List.set_cons_zero, List.set_cons_succ])
  refine wpAnyH_take (i := 2) (v := (.pointer (some ⟨Q, 0, none⟩))) rfl (by kernel_rfl) (by kernel_rfl) (by kernel_rfl) (fun _ _ _ h => h) (Or.inl ⟨by rfl, ?_⟩) (by assumption) ?_
  · intro w' hSw
    (try dsimp only at hSw)
    go_simp
  (try simp only [Act.put, List.setIfInBounds_toArray, List.set_cons_zero, List.set_cons_succ])
  refine wpAnyH_take (i := 3) (v := (.int .i64 t)) rfl (by kernel_rfl) (by kernel_rfl) (by kernel_rfl) (fun _ _ _ h => h) (Or.inl ⟨by rfl, ?_⟩) (by assumption) ?_
  · intro w' hSw
    (try dsimp only at hSw)
    (obtain ⟨y0, y1, y2⟩ := CC.out _ hSw; go_simp)
  (try simp only [Act.put, List.setIfInBounds_toArray, List.set_cons_zero, List.set_cons_succ])
  refine wpAnyH_take (i := 4) (v := (.pointer (some ⟨Q, 0, none⟩))) rfl (by kernel_rfl) (by kernel_rfl) (by kernel_rfl) (fun _ _ _ h => h) (Or.inl ⟨by rfl, ?_⟩) (by assumption) ?_
  · intro w' hSw
    (try dsimp only at hSw)
    go_simp
  (try simp only [Act.put, List.setIfInBounds_toArray, List.set_cons_zero, List.set_cons_succ])
  refine wpAnyH_take (i := 5) (v := (.agg #[.int .i64 a, .int .i64 b])) rfl (by kernel_rfl) (by kernel_rfl) (by kernel_rfl) (fun _ _ _ h => h) (Or.inl ⟨by rfl, ?_⟩) (by assumption) ?_
  · intro w' hSw
    (try dsimp only at hSw)
    (obtain ⟨y0, y1, y2⟩ := CC.out _ hSw; go_simp)
  (try simp only [Act.put, List.setIfInBounds_toArray, List.set_cons_zero, List.set_cons_succ])
  refine wpAnyH_ready (rs := [6]) (by kernel_rfl) (by simp) ?_
  refine AllReadyH.cons rfl (fun K hK => ?_) AllReadyH.nil
  go_simp
  refine Calls.mono TI.out ?_
  rintro e W1 ⟨rfl, b1⟩
  have B1 : Hid (Below WI.heap.size WI W1) := ⟨b1.os, b1.tape, b1.output, b1.size, b1.block⟩
  clear b1 TI
  refine hK.out _ _ (B1.out) (fun hHeld => ?_)
  clear hK
  (try simp only [Act.put, List.setIfInBounds_toArray, List.set_cons_zero, List.set_cons_succ])
  refine wpAnyH_take (i := 7) (v := (.int .i64 (t - c))) rfl (by kernel_rfl) (by kernel_rfl) (by kernel_rfl) (fun _ _ _ h => h) (Or.inl ⟨by rfl, ?_⟩) (by assumption) ?_
  · intro w' hSw
    (try dsimp only at hSw)
    (go_simp; first | exact ew | exact i64_in (by omega) (by omega) | omega)
  (try simp only [Act.put, List.setIfInBounds_toArray, List.set_cons_zero, List.set_cons_succ])
  refine wpAnyH_ready (rs := [8]) (by kernel_rfl) (by simp) ?_
  refine AllReadyH.cons rfl (fun K hK => ?_) AllReadyH.nil
  go_simp
  refine hK.out _ _ (B1.out) (fun hHeld => ?_)
  clear hK
  (try simp only [Act.put, List.setIfInBounds_toArray, List.set_cons_zero, List.set_cons_succ])
  refine wpAnyH_done (by kernel_rfl) ?_ _
  clear hHeld
  have BZ : Hid (Below X.heap.size X W1) := BI.out.trans (B1.out.mono BI.out.size)
  go_wp2_with fail
  go_ret
  exact ⟨rfl, BZ.out⟩
/-- is a time refused? -/
def badN (now : Int) : Prop := now < 0 ∨ 9007199254740992 < now
instance (now : Int) : Decidable (badN now) := by unfold badN; infer_instance
def flE (t f now : Int) : Int := if badN now then 1 else if f + 1 < t then 0 else 100
def flV (t s m f now : Int) : Int := if badN now then 0 else if f + 1 < t then now + wtN s m f.toNat else 0
/-- is a failure told? -/
def flA (t f now : Int) : Prop := ¬ badN now ∧ f < t
instance (t f now : Int) : Decidable (flA t f now) := by unfold flA; infer_instance
theorem fail_all (X : World) (B M n : Nat) (t s m a b now : Int) (F : Int → Int → Int) (h : BgAt X B M n t s m F) (hf : BFits t s m) (ha : (Lit.int .i64 a).wf = true) (hb : (Lit.int .i64 b).wf = true) (hn : n < maxLen) (h0 : 0 ≤ F a b) (h1 : F a b ≤ t) :
    Calls Try.prog 12 #[.pointer (some ⟨B, 0, none⟩), .agg #[.int .i64 a, .int .i64 b], .int .i64 now] X fun e X' => e = .returned (.tuple #[.int .i64 (flV t s m (F a b) now), .int .i64 (flE t (F a b) now)]) ∧ (∃ n', n' ≤ n + 1 ∧ BgAt X' B M n' t s m (if flA t (F a b) now then upd F a b (F a b + 1) else F)) ∧ X.grownBy X' (some M) := by
  by_cases hw : badN now
  · have e1 : flE t (F a b) now = 1 := by unfold flE; rw [if_pos hw]
    have e2 : flV t s m (F a b) now = 0 := by unfold flV; rw [if_pos hw]
    have e3 : ¬ flA t (F a b) now := fun e => e.1 hw
    rw [e1, e2, if_neg e3]
    by_cases w0 : 0 ≤ now
    · have w1 : ¬ now ≤ 9007199254740992 := by unfold badN at hw; omega
      exact (fail_late X B M n t s m a b now F h hf ha hb w0 w1).mono fun e X' ⟨p, q, r⟩ => ⟨p, ⟨n, by omega, q⟩, r⟩
    · exact (fail_neg X B M n t s m a b now F h hf ha hb w0).mono fun e X' ⟨p, q, r⟩ => ⟨p, ⟨n, by omega, q⟩, r⟩
  · have w0 : 0 ≤ now := by unfold badN at hw; omega
    have w1 : now ≤ 9007199254740992 := by unfold badN at hw; omega
    by_cases e : F a b = t
    · have e1 : flE t (F a b) now = 100 := by unfold flE; rw [if_neg hw, if_neg (by omega)]
      have e2 : flV t s m (F a b) now = 0 := by unfold flV; rw [if_neg hw, if_neg (by omega)]
      have e3 : ¬ flA t (F a b) now := fun z => by have := z.2; omega
      rw [e1, e2, if_neg e3]
      exact (fail_spent X B M n t s m a b now F h hf ha hb w0 w1 _ rfl e).mono fun e X' ⟨p, q, r⟩ => ⟨p, ⟨n, by omega, q⟩, r⟩
    · have e3 : flA t (F a b) now := ⟨hw, by omega⟩
      rw [if_pos e3]
      by_cases e' : F a b + 1 = t
      · have e1 : flE t (F a b) now = 100 := by unfold flE; rw [if_neg hw, if_neg (by omega)]
        have e2 : flV t s m (F a b) now = 0 := by unfold flV; rw [if_neg hw, if_neg (by omega)]
        rw [e1, e2]
        exact (fail_last X B M n t s m a b now F h hf ha hb hn w0 w1 _ rfl h0 e').mono fun e X' ⟨p, q, r⟩ => ⟨p, ⟨n + 1, Nat.le_refl _, q⟩, r⟩
      · have e1 : flE t (F a b) now = 0 := by unfold flE; rw [if_neg hw, if_pos (by omega)]
        have e2 : flV t s m (F a b) now = now + wtN s m (F a b).toNat := by unfold flV; rw [if_neg hw, if_pos (by omega)]
        rw [e1, e2]
        exact (fail_wait X B M n t s m a b now F h hf ha hb hn w0 w1 _ rfl h0 (by omega)).mono fun e X' ⟨p, q, r⟩ => ⟨p, ⟨n + 1, Nat.le_refl _, q⟩, r⟩
theorem near_refl (X : World) (v : Value) : Near X v v := fun _ hg => Or.inl hg
theorem rbfail_all (X : World) (base Q : Nat) (t s m a b now : Int) (v : Value) (L : List (Int × Int)) (h : RbAt X base Q t s m v L) (hf : BFits t s m) (hL : L.length + 1 ≤ 8000000000000) (hbase : base ≤ X.heap.size) (h1 : (cnt a b L : Int) ≤ t) :
    Calls Try.prog 35 #[.pointer (some ⟨Q, 0, none⟩), .agg #[.int .i64 a, .int .i64 b], .int .i64 now] X fun e X' => ∃ v', e = .returned (.tuple #[.int .i64 (flV t s m (cnt a b L : Int) now), .int .i64 (flE t (cnt a b L : Int) now)]) ∧ RbAt X' base Q t s m v' (if flA t (cnt a b L : Int) now then L ++ [(a, b)] else L) ∧ Gr2 X X' Q v ∧ Near X v v' := by
  have hmx : L.length ≤ maxLen := by unfold maxLen; omega
  by_cases hw : badN now
  · have e1 : flE t (cnt a b L : Int) now = 1 := by unfold flE; rw [if_pos hw]
    have e2 : flV t s m (cnt a b L : Int) now = 0 := by unfold flV; rw [if_pos hw]
    have e3 : ¬ flA t (cnt a b L : Int) now := fun e => e.1 hw
    rw [e1, e2, if_neg e3]
    by_cases w0 : now < 0
    · exact (rbfail_neg X Q a b now w0).mono fun e X' ⟨p, q⟩ => ⟨v, p, h.below q, Gr2.of_below _ _ q, near_refl _ _⟩
    · have w1 : 9007199254740992 < now := by unfold badN at hw; omega
      exact (rbfail_late X Q a b now w1).mono fun e X' ⟨p, q⟩ => ⟨v, p, h.below q, Gr2.of_below _ _ q, near_refl _ _⟩
  · have w0 : 0 ≤ now := by unfold badN at hw; omega
    have w1 : now ≤ 9007199254740992 := by unfold badN at hw; omega
    by_cases e : (cnt a b L : Int) = t
    · have e1 : flE t (cnt a b L : Int) now = 100 := by unfold flE; rw [if_neg hw, if_neg (by omega)]
      have e2 : flV t s m (cnt a b L : Int) now = 0 := by unfold flV; rw [if_neg hw, if_neg (by omega)]
      have e3 : ¬ flA t (cnt a b L : Int) now := fun z => by have := z.2; omega
      rw [e1, e2, if_neg e3]
      exact (rbfail_spent X base Q t s m a b now v L h hf hmx w0 w1 e).mono fun e X' ⟨p, q, r⟩ => ⟨v, p, q, Gr2.of_below _ _ r, near_refl _ _⟩
    · have e3 : flA t (cnt a b L : Int) now := ⟨hw, by omega⟩
      rw [if_pos e3]
      by_cases e' : (cnt a b L : Int) + 1 = t
      · have e1 : flE t (cnt a b L : Int) now = 100 := by unfold flE; rw [if_neg hw, if_neg (by omega)]
        have e2 : flV t s m (cnt a b L : Int) now = 0 := by unfold flV; rw [if_neg hw, if_neg (by omega)]
        rw [e1, e2]
        exact rbfail_last X base Q t s m a b now v L h hf hL hbase hbase w0 w1 _ rfl e'
      · have e1 : flE t (cnt a b L : Int) now = 0 := by unfold flE; rw [if_neg hw, if_pos (by omega)]
        have e2 : flV t s m (cnt a b L : Int) now = now + wtN s m (cnt a b L) := by unfold flV; rw [if_neg hw, if_pos (by omega)]; simp
        rw [e1, e2]
        exact rbfail_wait X base Q t s m a b now v L h hf hL hbase hbase w0 w1 _ rfl (by omega)
end Go.Proofs.Ytkfiaahgcljljaa
