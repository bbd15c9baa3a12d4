import Derived.Test.YtkfiaahgcljljaaTdMap
import Derived.Carry
import Derived.Test.YtkfiaahgcljljaaTbTick
namespace Go.Proofs.Ytkfiaahgcljljaa
open Go.RowKit
/-- a budget in memory -/
def BgBlk (X : World) (B M : Nat) (t s m : Int) : Prop := X.heap[B]? = some (.cells #[.int .i64 t, .int .i64 s, .int .i64 m, .map (some M)] 69)
structure BgAt (X : World) (B M n : Nat) (t s m : Int) (F : Int → Int → Int) : Prop where
  blk : BgBlk X B M t s m
  map : MpAt X M n F
theorem BgBlk.c0 {X : World} {B M : Nat} {t s m : Int} (h : BgBlk X B M t s m) : X.cell? ⟨B, 0, none⟩ = some (.int .i64 t) := by unfold World.cell?; rw [h]; rfl
theorem BgBlk.c1 {X : World} {B M : Nat} {t s m : Int} (h : BgBlk X B M t s m) : X.cell? ⟨B, 1, none⟩ = some (.int .i64 s) := by unfold World.cell?; rw [h]; rfl
theorem BgBlk.c2 {X : World} {B M : Nat} {t s m : Int} (h : BgBlk X B M t s m) : X.cell? ⟨B, 2, none⟩ = some (.int .i64 m) := by unfold World.cell?; rw [h]; rfl
theorem BgBlk.c3 {X : World} {B M : Nat} {t s m : Int} (h : BgBlk X B M t s m) : X.cell? ⟨B, 3, none⟩ = some (.map (some M)) := by unfold World.cell?; rw [h]; rfl
theorem BgAt.ne {X : World} {B M n : Nat} {t s m : Int} {F : Int → Int → Int} (h : BgAt X B M n t s m F) : B ≠ M := by
  rintro rfl
  obtain ⟨D, ⟨es, clock, hb, _⟩, _⟩ := h.map
  have := (show X.heap[B]? = _ from h.blk).symm.trans hb
  simp at this
/-- the map is turned -/
theorem BgAt.turn {X X' : World} {B M n n' : Nat} {t s m : Int} {F F' : Int → Int → Int} (h : BgAt X B M n t s m F) (hm : MpAt X' M n' F') (hg : X.grownBy X' (some M)) : BgAt X' B M n' t s m F' :=
  ⟨(hg.block _ (blk_lt h.blk) (fun e => h.ne (by cases e; rfl))).trans h.blk, hm⟩
theorem BgAt.below {X X' : World} {B M n : Nat} {t s m : Int} {F : Int → Int → Int} (h : BgAt X B M n t s m F) (hb : Below X.heap.size X X') : BgAt X' B M n t s m F :=
  ⟨(hb.block _ (blk_lt h.blk)).trans h.blk, h.map.same (hb.block _ h.map.lt)⟩
theorem BgAt.drewN {X : World} {B M n : Nat} {t s m : Int} {F : Int → Int → Int} (h : BgAt X B M n t s m F) (k : Nat) : BgAt (X.drewN k) B M n t s m F := h.below ⟨rfl, rfl, rfl, Nat.le_refl _, fun _ _ => rfl⟩
theorem BgAt.drew {X : World} {B M n : Nat} {t s m : Int} {F : Int → Int → Int} (h : BgAt X B M n t s m F) : BgAt X.drew B M n t s m F := h.below ⟨rfl, rfl, rfl, Nat.le_refl _, fun _ _ => rfl⟩
/-- an item in memory -/
def ItAt (X : World) (I : Nat) (a b : Int) : Prop := X.heap[I]? = some (.cells #[.int .i64 a, .int .i64 b] 25)
theorem ItAt.c0 {X : World} {I : Nat} {a b : Int} (h : ItAt X I a b) : X.cell? ⟨I, 0, none⟩ = some (.int .i64 a) := by unfold World.cell?; rw [h]; rfl
theorem ItAt.c1 {X : World} {I : Nat} {a b : Int} (h : ItAt X I a b) : X.cell? ⟨I, 1, none⟩ = some (.int .i64 b) := by unfold World.cell?; rw [h]; rfl
theorem ItAt.turn {X X' : World} {I M n : Nat} {a b : Int} {F : Int → Int → Int} (h : ItAt X I a b) (hm : MpAt X M n F) (hg : X.grownBy X' (some M)) : ItAt X' I a b := by
  refine (hg.block _ (blk_lt h) (fun e => ?_)).trans h
  obtain rfl : I = M := by cases e; rfl
  obtain ⟨D, ⟨es, clock, hb, _⟩, _⟩ := hm
  have := (show X.heap[I]? = _ from h).symm.trans hb
  simp at this
theorem ItAt.drewN {X : World} {I : Nat} {a b : Int} (h : ItAt X I a b) (k : Nat) : ItAt (X.drewN k) I a b := h
/-- a budget as it may be -/
structure BFits (t s m : Int) : Prop where
  t1 : 1 ≤ t
  t2 : t ≤ 64
  s1 : 1 ≤ s
  s2 : s ≤ m
  m2 : m ≤ 1024
def wtN (s m : Int) : Nat → Int
  | 0 => s
  | j + 1 => min (2 * wtN s m j) m
theorem wtN_in {t s m : Int} (h : BFits t s m) (j : Nat) : s ≤ wtN s m j ∧ wtN s m j ≤ m := by
  induction j with
  | zero => exact ⟨Int.le_refl _, h.s2⟩
  | succ j ih =>
    have := h.s1
    have := h.s2
    simp only [wtN]
    omega
set_option maxHeartbeats 8000000 in
set_option maxRecDepth 100000 in
set_option linter.unusedSimpArgs false in
set_option linter.unusedVariables false in
theorem bnone_nil (w : World) : Calls Try.prog 27 #[.pointer none] w fun e w' => e = .returned (.bool true) ∧ w = w' := by
  go_enter Try.func27, Try.ntmps27
  go_wp2_with fail
  go_ret
  exact ⟨rfl, rfl⟩
set_option maxHeartbeats 8000000 in
set_option maxRecDepth 100000 in
set_option linter.unusedSimpArgs false in
set_option linter.unusedVariables false in
theorem bnone_any (w : World) (B M : Nat) (t s m : Int) (h : BgBlk w B M t s m) (ht : 1 ≤ t) : Calls Try.prog 27 #[.pointer (some ⟨B, 0, none⟩)] w fun e w' => e = .returned (.bool false) ∧ w = w' := by
  have c0 := h.c0
  have hr0 : (t == 0) = false := by simp; omega
  go_enter Try.func27, Try.ntmps27
  go_wp2_with fail
  go_ret
  exact ⟨rfl, rfl⟩
set_option maxHeartbeats 8000000 in
set_option maxRecDepth 100000 in
set_option linter.unusedSimpArgs false in
set_option linter.unusedVariables false in
theorem bwait_any (w : World) (B M : Nat) (t s m : Int) (f : Nat) (h : BgBlk w B M t s m) (hf : BFits t s m) (hf1 : 1 ≤ f) (hf2 : f ≤ 64) : Calls Try.prog 28 #[.pointer (some ⟨B, 0, none⟩), .int .i64 (f : Int)] w fun e w' => e = .returned (.int .i64 (wtN s m (f - 1))) ∧ w' = w := by
  have c1 := h.c1
  have c2 := h.c2
  have x1 : IntKind.i64.wrap ((f : Int) - 1) = ((f - 1 : Nat) : Int) := by rw [i64_in (by omega) (by omega)]; omega
  go_enter Try.func28, Try.ntmps28
  go_wp2_with fail
  go_loopw [5, 12] (fun vt vi wr => ∃ (q : Nat), q ≤ f - 1 ∧ vi = .int .i64 (q : Int) ∧ vt = .int .i64 (wtN s m q) ∧ wr = w) (fun _ vi _ => f - 1 - (intOf vi).toNat)
  case atStart => exact ⟨0, by omega, rfl, rfl, rfl⟩
  case round =>
    obtain ⟨q, hq, rfl, rfl, rfl⟩ := hrel
    have wq := wtN_in hf q
    have m2 := hf.m2
    have s1 := hf.s1
    have x2 : IntKind.i64.wrap (2 * wtN s m q) = 2 * wtN s m q := i64_in (by omega) (by omega)
    by_cases hql : q < f - 1
    case pos =>
      have hqi : (q : Int) < ((f - 1 : Nat) : Int) := by omega
      go_wp2_with fail
      go_roundw
      case rel => exact ⟨q + 1, by omega, by go_num, rfl, by first | rfl | trivial⟩
      case measure => simp [intOf]; omega
    case neg =>
      obtain rfl : q = f - 1 := by omega
      go_wp2_with fail
      go_ret
      exact ⟨rfl, rfl⟩
set_option maxHeartbeats 8000000 in
set_option maxRecDepth 100000 in
set_option linter.unusedSimpArgs false in
set_option linter.unusedVariables false in
theorem newBudget_any (t s m : Int) (w : World) (hf : BFits t s m) :
    Calls Try.prog 9 #[.int .i64 t, .int .i64 s, .int .i64 m] w fun e w' => e = .returned (.tuple #[.pointer (some ⟨w.heap.size + 1, 0, none⟩), .int .i64 0]) ∧ BgAt w' (w.heap.size + 1) w.heap.size 0 t s m (fun _ _ => 0) ∧ Below w.heap.size w w' := by
  have h1 := hf.t1
  have h2 := hf.t2
  have h3 := hf.s1
  have h4 := hf.s2
  have h5 := hf.m2
  have h6 : s ≤ 1024 := by omega
  have hmm := @run_makeMap Try.prog
  go_enter Try.func9, Try.ntmps9
  go_wp2_with (go_at_call 26; refine Calls.mono (within_any _ _ _ _) ?_; rintro e w1 ⟨rfl, rfl⟩)
  go_ret2
  have b1 : Below w.heap.size w (w.alloc (.map #[] 0)) := (Below.refl _ w).alloc (Nat.le_refl _) _
  have b2 := (Below.refl (w.alloc (.map #[] 0)).heap.size (w.alloc (.map #[] 0))).alloc (Nat.le_refl _) (.cells #[.int .i64 t, .int .i64 s, .int .i64 m, .map (some w.heap.size)] 69)
  refine ⟨rfl, ⟨?_, (MpAt.made w).same (b2.block _ (MpAt.made w).lt)⟩, b1.trans (b2.mono b1.size)⟩
  have := heap_last (w.alloc (.map #[] 0)) (.cells #[.int .i64 t, .int .i64 s, .int .i64 m, .map (some w.heap.size)] 69)
  simp only [World.size_alloc] at this
  exact this
set_option maxHeartbeats 8000000 in
set_option maxRecDepth 100000 in
set_option linter.unusedSimpArgs false in
set_option linter.unusedVariables false in
theorem newBudget_bad0 (t s m : Int) (w : World)  (h0 : ¬ 1 ≤ t) :
    Calls Try.prog 9 #[.int .i64 t, .int .i64 s, .int .i64 m] w fun e w' => e = .returned (.tuple #[.pointer none, .int .i64 1]) ∧ w = w' := by
  go_enter Try.func9, Try.ntmps9
  go_wp2_with (go_at_call 26; refine Calls.mono (within_any _ _ _ _) ?_; rintro e w1 ⟨rfl, rfl⟩)
  go_ret2
  exact ⟨rfl, rfl⟩
set_option maxHeartbeats 8000000 in
set_option maxRecDepth 100000 in
set_option linter.unusedSimpArgs false in
set_option linter.unusedVariables false in
theorem newBudget_bad1 (t s m : Int) (w : World) (h0 : 1 ≤ t) (h1 : ¬ t ≤ 64) :
    Calls Try.prog 9 #[.int .i64 t, .int .i64 s, .int .i64 m] w fun e w' => e = .returned (.tuple #[.pointer none, .int .i64 1]) ∧ w = w' := by
  go_enter Try.func9, Try.ntmps9
  go_wp2_with (go_at_call 26; refine Calls.mono (within_any _ _ _ _) ?_; rintro e w1 ⟨rfl, rfl⟩)
  go_ret2
  exact ⟨rfl, rfl⟩
set_option maxHeartbeats 8000000 in
set_option maxRecDepth 100000 in
set_option linter.unusedSimpArgs false in
set_option linter.unusedVariables false in
theorem newBudget_bad2 (t s m : Int) (w : World) (h0 : 1 ≤ t) (h1 : t ≤ 64) (h2 : ¬ 1 ≤ s) :
    Calls Try.prog 9 #[.int .i64 t, .int .i64 s, .int .i64 m] w fun e w' => e = .returned (.tuple #[.pointer none, .int .i64 1]) ∧ w = w' := by
  go_enter Try.func9, Try.ntmps9
  go_wp2_with (go_at_call 26; refine Calls.mono (within_any _ _ _ _) ?_; rintro e w1 ⟨rfl, rfl⟩)
  go_ret2
  exact ⟨rfl, rfl⟩
set_option maxHeartbeats 8000000 in
set_option maxRecDepth 100000 in
set_option linter.unusedSimpArgs false in
set_option linter.unusedVariables false in
theorem newBudget_bad3 (t s m : Int) (w : World) (h0 : 1 ≤ t) (h1 : t ≤ 64) (h2 : 1 ≤ s) (h3 : ¬ s ≤ 1024) :
    Calls Try.prog 9 #[.int .i64 t, .int .i64 s, .int .i64 m] w fun e w' => e = .returned (.tuple #[.pointer none, .int .i64 1]) ∧ w = w' := by
  go_enter Try.func9, Try.ntmps9
  go_wp2_with (go_at_call 26; refine Calls.mono (within_any _ _ _ _) ?_; rintro e w1 ⟨rfl, rfl⟩)
  go_ret2
  exact ⟨rfl, rfl⟩
set_option maxHeartbeats 8000000 in
set_option maxRecDepth 100000 in
set_option linter.unusedSimpArgs false in
set_option linter.unusedVariables false in
theorem newBudget_bad4 (t s m : Int) (w : World) (h0 : 1 ≤ t) (h1 : t ≤ 64) (h2 : 1 ≤ s) (h3 : s ≤ 1024) (h4 : ¬ s ≤ m) :
    Calls Try.prog 9 #[.int .i64 t, .int .i64 s, .int .i64 m] w fun e w' => e = .returned (.tuple #[.pointer none, .int .i64 1]) ∧ w = w' := by
  go_enter Try.func9, Try.ntmps9
  go_wp2_with (go_at_call 26; refine Calls.mono (within_any _ _ _ _) ?_; rintro e w1 ⟨rfl, rfl⟩)
  · go_ret2
    exact ⟨rfl, rfl⟩
  · exfalso
    have hx : (!decide (s ≤ m)) = false ∧ (!decide (m ≤ 1024)) = false := by assumption
    simp at hx
    omega
set_option maxHeartbeats 8000000 in
set_option maxRecDepth 100000 in
set_option linter.unusedSimpArgs false in
set_option linter.unusedVariables false in
theorem newBudget_bad5 (t s m : Int) (w : World) (h0 : 1 ≤ t) (h1 : t ≤ 64) (h2 : 1 ≤ s) (h3 : s ≤ 1024) (h4 : s ≤ m) (h5 : ¬ m ≤ 1024) :
    Calls Try.prog 9 #[.int .i64 t, .int .i64 s, .int .i64 m] w fun e w' => e = .returned (.tuple #[.pointer none, .int .i64 1]) ∧ w = w' := by
  go_enter Try.func9, Try.ntmps9
  go_wp2_with (go_at_call 26; refine Calls.mono (within_any _ _ _ _) ?_; rintro e w1 ⟨rfl, rfl⟩)
  · go_ret2
    exact ⟨rfl, rfl⟩
  · exfalso
    have hx : (!decide (m ≤ 1024)) = false := by assumption
    simp at hx
    omega
theorem newBudget_bad (t s m : Int) (w : World) (h : ¬ (1 ≤ t ∧ t ≤ 64 ∧ 1 ≤ s ∧ s ≤ 1024 ∧ s ≤ m ∧ m ≤ 1024)) :
    Calls Try.prog 9 #[.int .i64 t, .int .i64 s, .int .i64 m] w fun e w' => e = .returned (.tuple #[.pointer none, .int .i64 1]) ∧ w = w' := by
  by_cases h0 : 1 ≤ t
  case neg => exact newBudget_bad0 t s m w h0
  by_cases h1 : t ≤ 64
  case neg => exact newBudget_bad1 t s m w h0 h1
  by_cases h2 : 1 ≤ s
  case neg => exact newBudget_bad2 t s m w h0 h1 h2
  by_cases h3 : s ≤ 1024
  case neg => exact newBudget_bad3 t s m w h0 h1 h2 h3
  by_cases h4 : s ≤ m
  case neg => exact newBudget_bad4 t s m w h0 h1 h2 h3 h4
  exact newBudget_bad5 t s m w h0 h1 h2 h3 h4 (fun h5 => h ⟨h0, h1, h2, h3, h4, h5⟩)
set_option maxHeartbeats 8000000 in
set_option maxRecDepth 100000 in
set_option linter.unusedSimpArgs false in
set_option linter.unusedVariables false in
theorem left_any (X : World) (B M n : Nat) (t s m a b : Int) (F : Int → Int → Int) (h : BgAt X B M n t s m F) (hf : BFits t s m) (ha : (Lit.int .i64 a).wf = true) (hb : (Lit.int .i64 b).wf = true) (hF : 0 ≤ F a b ∧ F a b ≤ t) :
    Calls Try.prog 13 #[.pointer (some ⟨B, 0, none⟩), .agg #[.int .i64 a, .int .i64 b]] X fun e X' => e = .returned (.int .i64 (t - F a b)) ∧ BgAt X' B M n t s m F ∧ Below X.heap.size X X' := by
  obtain ⟨WI, hWI⟩ : ∃ WI, WI = X.alloc (.cells #[.int .i64 a, .int .i64 b] 25) := ⟨_, rfl⟩
  obtain ⟨I, hI⟩ : ∃ I, I = X.heap.size := ⟨_, rfl⟩
  have II : Hid (ItAt WI I a b) := by subst hWI; subst hI; exact heap_last _ _
  have bI : Below X.heap.size X WI := by subst hWI; exact (Below.refl _ _).alloc (Nat.le_refl _) _
  have HB := hide (h.below bI)
  have BI := hide bI
  clear bI h
  have NO := hide (bnone_any WI B M t s m HB.out.blk hf.t1)
  have t1 := hf.t1
  have t2 := hf.t2
  have L0 : ∀ k, (Instr.lookup 67 (.map (some M)) (.agg #[.int .i64 a, .int .i64 b]) false).run Try.prog (WI.drewN k) = .ok (.int .i64 (F a b)) (WI.drewN k) := fun k => (HB.out.drewN k).map.look ha hb
  have ew := wrap_in (x := t - F a b) (by omega) (by omega)
  have c0 := HB.out.blk.c0
  have c3 := HB.out.blk.c3
  have i0 := II.out.c0
  have i1 := II.out.c1
  go_enter Try.func13, Try.ntmps13
  go_wp2_with fail
  rw [← hWI, ← hI]
  clear hWI hI
  go_wp2_with (go_at_call 27; refine Calls.mono NO.out ?_; rintro e w1 ⟨rfl, rfl⟩)
  go_quiet (fail)
  have HZ : Hid (BgAt (WI.drewN nq) B M n t s m F ∧ Below X.heap.size X (WI.drewN nq)) := ⟨HB.out.drewN _, BI.out.trans ⟨rfl, rfl, rfl, Nat.le_refl _, fun _ _ => rfl⟩⟩
  generalize WI.drewN nq = W3 at *
  clear c0 c3 i0 i1 L0
  go_wp2_with fail
  go_ret
  exact ⟨by first | rfl | exact congrArg (fun z => Ending.returned (.int .i64 z)) ew, HZ.out⟩
set_option maxHeartbeats 8000000 in
set_option maxRecDepth 100000 in
set_option linter.unusedSimpArgs false in
set_option linter.unusedVariables false in
theorem left_nil (X : World) (a b : Int) : Calls Try.prog 13 #[.pointer none, .agg #[.int .i64 a, .int .i64 b]] X fun e X' => e = .returned (.int .i64 0) ∧ Below X.heap.size X X' := by
  have NO := hide (bnone_nil (X.alloc (.cells #[.int .i64 a, .int .i64 b] 25)))
  go_enter Try.func13, Try.ntmps13
  go_wp2_with (go_at_call 27; refine Calls.mono NO.out ?_; rintro e w1 ⟨rfl, rfl⟩)
  go_ret
  exact ⟨rfl, (Below.refl _ _).alloc (Nat.le_refl _) _⟩
theorem upd_self (F : Int → Int → Int) (a b v : Int) : upd F a b v a b = v := by simp [upd]
theorem grown_below2 {w w' w'' : World} {R : Option Nat} (h : w.grownBy w' R) (hb : Below w'.heap.size w' w'') : w.grownBy w'' R := ⟨hb.os.trans h.os, hb.tape.trans h.tape, hb.output.trans h.output, Nat.le_trans h.size hb.size, fun i hi hn => (hb.block i (Nat.lt_of_lt_of_le hi h.size)).trans (h.block i hi hn)⟩
theorem below_grown {w w' : World} {R : Option Nat} (hb : Below w.heap.size w w') : w.grownBy w' R := ⟨hb.os, hb.tape, hb.output, hb.size, fun i hi _ => hb.block i hi⟩
theorem grown_trans {w w' w'' : World} {R : Nat} (h : w.grownBy w' (some R)) (k : w'.grownBy w'' (some R)) : w.grownBy w'' (some R) := ⟨k.os.trans h.os, k.tape.trans h.tape, k.output.trans h.output, Nat.le_trans h.size k.size, fun i hi hn => (k.block i (Nat.lt_of_lt_of_le hi h.size) hn).trans (h.block i hi hn)⟩
set_option maxHeartbeats 8000000 in
set_option maxRecDepth 100000 in
set_option linter.unusedSimpArgs false in
set_option linter.unusedVariables false in
theorem clear_any (X : World) (B M n : Nat) (t s m a b : Int) (F : Int → Int → Int) (h : BgAt X B M n t s m F) (hf : BFits t s m) (ha : (Lit.int .i64 a).wf = true) (hb : (Lit.int .i64 b).wf = true) :
    Calls Try.prog 14 #[.pointer (some ⟨B, 0, none⟩), .agg #[.int .i64 a, .int .i64 b]] X fun e X' => e = .returned (.int .i64 0) ∧ BgAt X' B M n t s m (upd F a b 0) ∧ X.grownBy X' (some M) := by
  obtain ⟨WI, hWI⟩ : ∃ WI, WI = X.alloc (.cells #[.int .i64 a, .int .i64 b] 25) := ⟨_, rfl⟩
  obtain ⟨I, hI⟩ : ∃ I, I = X.heap.size := ⟨_, rfl⟩
  have II : Hid (ItAt WI I a b) := by subst hWI; subst hI; exact heap_last _ _
  have bI : Below X.heap.size X WI := by subst hWI; exact (Below.refl _ _).alloc (Nat.le_refl _) _
  have HB := hide (h.below bI)
  have BI := hide bI
  clear bI h
  have NO := hide (bnone_any WI B M t s m HB.out.blk hf.t1)
  obtain ⟨X2, dr, dm, dg⟩ := HB.out.drew.map.del ha hb 0
  have DR : (Builtin.delete_ #[67, 25] 0 #[.map (some M), .agg #[.int .i64 a, .int .i64 b]]).run Try.prog WI.drew = .ok (.tuple #[]) X2 := dr
  have HZ : Hid (BgAt X2 B M n t s m (upd F a b 0) ∧ X.grownBy X2 (some M)) := ⟨HB.out.drew.turn dm dg, grown_trans (below_grown BI.out) ⟨dg.os, dg.tape, dg.output, dg.size, dg.block⟩⟩
  have DG := hide dg
  clear dr dm dg
  go_enter Try.func14, Try.ntmps14
  go_wp2_with fail
  rw [← hWI, ← hI]
  clear hWI hI
  go_wp2_with (go_at_call 27; refine Calls.mono NO.out ?_; rintro e w1 ⟨rfl, rfl⟩)
  have SC : Hid (∀ Y, Y = WI.drew ∨ Y = X2 → Y.cell? ⟨B, 3, none⟩ = some (.map (some M)) ∧ Y.cell? ⟨I, 0, none⟩ = some (.int .i64 a) ∧ Y.cell? ⟨I, 1, none⟩ = some (.int .i64 b)) := by
    rintro Y (rfl | rfl)
    · exact ⟨HB.out.blk.c3, II.out.c0, II.out.c1⟩
    · have iz := (show ItAt WI.drew I a b from II.out).turn HB.out.drew.map DG.out
      exact ⟨HZ.out.1.blk.c3, iz.c0, iz.c1⟩
  refine wp_region_held_drew (S := fun Y => Y = WI.drew ∨ Y = X2) (by kernel_rfl) (Or.inl rfl) (fun hHeld => ?_)
  refine wpAnyH_take (i := 0) (v := (.pointer (some ⟨B, 0, none⟩))) rfl (by kernel_rfl) (by kernel_rfl) (by kernel_rfl) (fun _ _ _ h => h) (Or.inl ⟨by rfl, ?_⟩) (by assumption) ?_
  · intro w' hSw
    (try dsimp only at hSw)
    go_simp
  (try simp only [Act.put, List.setIfInBounds_toArray, List.set_cons_zero, List.set_cons_succ])
  refine wpAnyH_take (i := 1) (v := (.pointer (some ⟨B, 0, none⟩))) rfl (by kernel_rfl) (by kernel_rfl) (by kernel_rfl) (fun _ _ _ h => h) (Or.inl ⟨by rfl, ?_⟩) (by assumption) ?_
  · intro w' hSw
    (try dsimp only at hSw)
    go_simp
  (try simp only [Act.put, List.setIfInBounds_toArray, List.set_cons_zero, List.set_cons_succ])
  refine wpAnyH_take (i := 2) (v := (.pointer (some ⟨B, 3, none⟩))) rfl (by kernel_rfl) (by kernel_rfl) (by kernel_rfl) (fun _ _ _ h => h) (Or.inl ⟨by rfl, ?_⟩) (by assumption) ?_
  · intro w' hSw
    (try dsimp only at hSw)
    go_simp
  (try simp only [Act.put, List.setIfInBounds_toArray, List.set_cons_zero, List.set_cons_succ])
  refine wpAnyH_take (i := 3) (v := (.map (some M))) rfl (by kernel_rfl) (by kernel_rfl) (by kernel_rfl) (fun _ _ _ h => h) (Or.inl ⟨by rfl, ?_⟩) (by assumption) ?_
  · intro w' hSw
    (try dsimp only at hSw)
    (obtain ⟨y0, y1, y2⟩ := SC.out _ hSw; go_simp)
  (try simp only [Act.put, List.setIfInBounds_toArray, List.set_cons_zero, List.set_cons_succ])
  refine wpAnyH_take (i := 4) (v := (.agg #[.int .i64 a, .int .i64 b])) rfl (by kernel_rfl) (by kernel_rfl) (by kernel_rfl) (fun _ _ _ h => h) (Or.inl ⟨by rfl, ?_⟩) (by assumption) ?_
  · intro w' hSw
    (try dsimp only at hSw)
    (obtain ⟨y0, y1, y2⟩ := SC.out _ hSw; go_simp)
  (try simp only [Act.put, List.setIfInBounds_toArray, List.set_cons_zero, List.set_cons_succ])
  refine wpAnyH_ready (rs := [5]) (by kernel_rfl) (by simp) ?_
  refine AllReadyH.cons rfl (fun K hK => ?_) AllReadyH.nil
  go_simp
  refine hK.out _ _ ((Or.inr rfl)) (fun hHeld => ?_)
  clear hK
  (try simp only [Act.put, List.setIfInBounds_toArray, List.set_cons_zero, List.set_cons_succ])
  refine wpAnyH_done (by kernel_rfl) ?_ _
  clear hHeld DR
  go_wp2_with fail
  go_ret
  exact ⟨rfl, HZ.out⟩
set_option maxHeartbeats 8000000 in
set_option maxRecDepth 100000 in
set_option linter.unusedSimpArgs false in
set_option linter.unusedVariables false in
theorem clear_nil (X : World) (a b : Int) : Calls Try.prog 14 #[.pointer none, .agg #[.int .i64 a, .int .i64 b]] X fun e X' => e = .returned (.int .i64 2) ∧ Below X.heap.size X X' := by
  have NO := hide (bnone_nil (X.alloc (.cells #[.int .i64 a, .int .i64 b] 25)))
  go_enter Try.func14, Try.ntmps14
  go_wp2_with (go_at_call 27; refine Calls.mono NO.out ?_; rintro e w1 ⟨rfl, rfl⟩)
  go_ret
  exact ⟨rfl, (Below.refl _ _).alloc (Nat.le_refl _) _⟩
end Go.Proofs.Ytkfiaahgcljljaa
