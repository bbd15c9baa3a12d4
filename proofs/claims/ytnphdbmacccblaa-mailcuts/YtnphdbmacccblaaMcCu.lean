import Derived.Test.YtnphdbmacccblaaMbLaws
namespace Go.Proofs.Ytnphdbmacccblaa
open Go.RowKit
set_option maxHeartbeats 8000000 in
set_option maxRecDepth 100000 in
set_option linter.unusedSimpArgs false in
set_option linter.unusedVariables false in
theorem betw_any (x : Lt) (a b : Int) (w : World) : Calls Try.prog 15 #[x.v, .int .i64 a, .int .i64 b] w fun e w' => e = .returned (.bool (onLk (x.fr, x.td, false) a b)) ∧ Below w.heap.size w w' := by
  obtain ⟨W0, hW0⟩ : ∃ W0, W0 = w.alloc (.cells #[.int .i64 x.id, .int .i64 x.fr, .int .i64 x.td, .string x.tx] 33) := ⟨_, rfl⟩
  obtain ⟨I, hI⟩ : ∃ I, I = w.heap.size := ⟨_, rfl⟩
  have I0 : Hid (LtAt W0 I x) := by subst hW0; subst hI; exact heap_last w _
  have B0 : Hid (Below w.heap.size w W0) := by subst hW0; exact (Below.refl _ w).alloc (Nat.le_refl _) _
  have i1 := I0.out.c1
  have i2 := I0.out.c2
  by_cases h0 : x.fr = a
  case pos =>
    by_cases h1 : x.td = b
    case pos =>
      have e0 : (x.fr == a) = true := by simpa using h0
      have d0 : decide (x.fr = a) = true := decide_eq_true h0
      have e1 : (x.td == b) = true := by simpa using h1
      have d1 : decide (x.td = b) = true := decide_eq_true h1
      have hO : onLk (x.fr, x.td, false) a b = true := by unfold onLk; simp only [d0, d1]; rfl
      rw [hO]
      clear d0 h0 d1 h1 hO
      go_enter Try.func15, Try.ntmps15
      unfold Lt.v
      go_upto_region 1 with fail
      rw [← hW0, ← hI]
      clear hW0 hI
      go_wp2_with fail
      go_ret
      exact ⟨rfl, B0.out⟩
    case neg =>
      by_cases h2 : x.fr = b
      case pos =>
        by_cases h3 : x.td = a
        case pos =>
          have e0 : (x.fr == a) = true := by simpa using h0
          have d0 : decide (x.fr = a) = true := decide_eq_true h0
          have e1 : (x.td == b) = false := by simpa using h1
          have d1 : decide (x.td = b) = false := decide_eq_false h1
          have e2 : (x.fr == b) = true := by simpa using h2
          have d2 : decide (x.fr = b) = true := decide_eq_true h2
          have e3 : (x.td == a) = true := by simpa using h3
          have d3 : decide (x.td = a) = true := decide_eq_true h3
          have hO : onLk (x.fr, x.td, false) a b = true := by unfold onLk; simp only [d0, d1, d2, d3]; rfl
          rw [hO]
          clear d0 h0 d1 h1 d2 h2 d3 h3 hO
          go_enter Try.func15, Try.ntmps15
          unfold Lt.v
          go_upto_region 1 with fail
          rw [← hW0, ← hI]
          clear hW0 hI
          go_wp2_with fail
          go_ret
          exact ⟨rfl, B0.out⟩
        case neg =>
          have e0 : (x.fr == a) = true := by simpa using h0
          have d0 : decide (x.fr = a) = true := decide_eq_true h0
          have e1 : (x.td == b) = false := by simpa using h1
          have d1 : decide (x.td = b) = false := decide_eq_false h1
          have e2 : (x.fr == b) = true := by simpa using h2
          have d2 : decide (x.fr = b) = true := decide_eq_true h2
          have e3 : (x.td == a) = false := by simpa using h3
          have d3 : decide (x.td = a) = false := decide_eq_false h3
          have hO : onLk (x.fr, x.td, false) a b = false := by unfold onLk; simp only [d0, d1, d2, d3]; rfl
          rw [hO]
          clear d0 h0 d1 h1 d2 h2 d3 h3 hO
          go_enter Try.func15, Try.ntmps15
          unfold Lt.v
          go_upto_region 1 with fail
          rw [← hW0, ← hI]
          clear hW0 hI
          go_wp2_with fail
          go_ret
          exact ⟨rfl, B0.out⟩
      case neg =>
        have e0 : (x.fr == a) = true := by simpa using h0
        have d0 : decide (x.fr = a) = true := decide_eq_true h0
        have e1 : (x.td == b) = false := by simpa using h1
        have d1 : decide (x.td = b) = false := decide_eq_false h1
        have e2 : (x.fr == b) = false := by simpa using h2
        have d2 : decide (x.fr = b) = false := decide_eq_false h2
        have hO : onLk (x.fr, x.td, false) a b = false := by unfold onLk; simp only [d0, d1, d2]; rfl
        rw [hO]
        clear d0 h0 d1 h1 d2 h2 hO
        go_enter Try.func15, Try.ntmps15
        unfold Lt.v
        go_upto_region 1 with fail
        rw [← hW0, ← hI]
        clear hW0 hI
        go_wp2_with fail
        go_ret
        exact ⟨rfl, B0.out⟩
  case neg =>
    by_cases h2 : x.fr = b
    case pos =>
      by_cases h3 : x.td = a
      case pos =>
        have e0 : (x.fr == a) = false := by simpa using h0
        have d0 : decide (x.fr = a) = false := decide_eq_false h0
        have e2 : (x.fr == b) = true := by simpa using h2
        have d2 : decide (x.fr = b) = true := decide_eq_true h2
        have e3 : (x.td == a) = true := by simpa using h3
        have d3 : decide (x.td = a) = true := decide_eq_true h3
        have hO : onLk (x.fr, x.td, false) a b = true := by unfold onLk; simp only [d0, d2, d3]; rfl
        rw [hO]
        clear d0 h0 d2 h2 d3 h3 hO
        go_enter Try.func15, Try.ntmps15
        unfold Lt.v
        go_upto_region 1 with fail
        rw [← hW0, ← hI]
        clear hW0 hI
        go_wp2_with fail
        go_ret
        exact ⟨rfl, B0.out⟩
      case neg =>
        have e0 : (x.fr == a) = false := by simpa using h0
        have d0 : decide (x.fr = a) = false := decide_eq_false h0
        have e2 : (x.fr == b) = true := by simpa using h2
        have d2 : decide (x.fr = b) = true := decide_eq_true h2
        have e3 : (x.td == a) = false := by simpa using h3
        have d3 : decide (x.td = a) = false := decide_eq_false h3
        have hO : onLk (x.fr, x.td, false) a b = false := by unfold onLk; simp only [d0, d2, d3]; rfl
        rw [hO]
        clear d0 h0 d2 h2 d3 h3 hO
        go_enter Try.func15, Try.ntmps15
        unfold Lt.v
        go_upto_region 1 with fail
        rw [← hW0, ← hI]
        clear hW0 hI
        go_wp2_with fail
        go_ret
        exact ⟨rfl, B0.out⟩
    case neg =>
      have e0 : (x.fr == a) = false := by simpa using h0
      have d0 : decide (x.fr = a) = false := decide_eq_false h0
      have e2 : (x.fr == b) = false := by simpa using h2
      have d2 : decide (x.fr = b) = false := decide_eq_false h2
      have hO : onLk (x.fr, x.td, false) a b = false := by unfold onLk; simp only [d0, d2]; rfl
      rw [hO]
      clear d0 h0 d2 h2 hO
      go_enter Try.func15, Try.ntmps15
      unfold Lt.v
      go_upto_region 1 with fail
      rw [← hW0, ← hI]
      clear hW0 hI
      go_wp2_with fail
      go_ret
      exact ⟨rfl, B0.out⟩
/-- the first letter -/
def x1L (a b : Int) : Lt := ⟨1, a, b, ⟨#[97, 104, 101, 97, 100]⟩⟩
/-- the mail while the link is cut -/
structure Cu (w0 wr : World) (R q : Nat) (a b : Int) (gn : Bool) (st : St) : Prop where
  ml : ∃ S, Ml wr S R st ∧ ∀ k, S k → w0.heap.size ≤ k
  gd : Good st
  ct : st.C (min a b) (max a b) = true
  hd : gn = false → ∃ r, st.L = x1L a b :: r
  sq : st.s ≤ q
  nq : st.n ≤ q
  bl : Below w0.heap.size w0 wr
theorem onLk_mm {n m a b : Int} (h : onLk (n, m, false) a b = true) : min n m = min a b ∧ max n m = max a b := by
  simp only [onLk, Bool.or_eq_true, Bool.and_eq_true, decide_eq_true_eq] at h
  omega
theorem mm_onLk {n m a b : Int} (h : min n m = min a b ∧ max n m = max a b) : onLk (n, m, false) a b = true := by
  simp only [onLk, Bool.or_eq_true, Bool.and_eq_true, decide_eq_true_eq]
  omega
theorem Cu.below {w0 wr w' : World} {R q : Nat} {a b : Int} {gn : Bool} {st : St} (h : Cu w0 wr R q a b gn st) (hb : Below wr.heap.size wr w') : Cu w0 w' R q a b gn st := by
  obtain ⟨S, t, s⟩ := h.ml
  exact ⟨⟨S, t.below hb, s⟩, h.gd, h.ct, h.hd, h.sq, h.nq, h.bl.trans (hb.mono h.bl.size)⟩
theorem Cu.up {w0 wr : World} {R q : Nat} {a b : Int} {gn : Bool} {st : St} (h : Cu w0 wr R q a b gn st) : Cu w0 wr R (q + 1) a b gn st := ⟨h.ml, h.gd, h.ct, h.hd, by have := h.sq; omega, by have := h.nq; omega, h.bl⟩
/-- a step that leaves the link cut and the first letter where it is -/
theorem Cu.go {w0 wr w' : World} {R q : Nat} {a b : Int} {gn gn' : Bool} {st st' : St} {S S' : Nat → Prop} (h : Cu w0 wr R q a b gn st) (hs : ∀ k, S k → w0.heap.size ≤ k) (m' : Ml w' S' R st') (k' : Kp wr w' S) (n' : Nr wr S S') (g' : Good st') (c' : st'.C (min a b) (max a b) = true) (h' : gn' = false → ∃ r, st'.L = x1L a b :: r) (l1 : st'.s ≤ st.s + 1) (l2 : st'.n ≤ st.n + 1) : Cu w0 w' R (q + 1) a b gn' st' := by
  refine ⟨⟨S', m', fun k e => ?_⟩, g', c', h', by have := h.sq; omega, by have := h.nq; omega, h.bl.trans ⟨k'.os, k'.tape, k'.output, k'.size, fun j hj => k'.block j (by have := h.bl.size; omega) (fun e => by have := hs j e; omega)⟩⟩
  rcases n' k e with z | z
  · exact hs k z
  · have := h.bl.size
    omega
theorem sndS_C (st : St) (n m : Int) (t : ByteArray) : (sndS st n m t).C = st.C ∧ (sndS st n m t).s ≤ st.s + 1 ∧ (sndS st n m t).n = st.n ∧ ∃ z, (sndS st n m t).L = st.L ++ z := by
  unfold sndS
  split
  · exact ⟨rfl, by simp, rfl, _, rfl⟩
  · exact ⟨rfl, by simp, rfl, [], by simp⟩
theorem cpyS_C (st : St) (i : Int) : (cpyS st i).C = st.C ∧ (cpyS st i).s ≤ st.s + 1 ∧ (cpyS st i).n = st.n ∧ ∃ z, (cpyS st i).L = st.L ++ z := by
  unfold cpyS
  split
  · exact ⟨rfl, by simp, rfl, _, rfl⟩
  · exact ⟨rfl, by simp, rfl, [], by simp⟩
theorem cons_erase {x : Lt} {r : List Lt} {i : Nat} (h : i ≠ 0) : ∃ r', (x :: r).eraseIdx i = x :: r' := by
  cases i with
  | zero => exact absurd rfl h
  | succ i => exact ⟨_, rfl⟩
theorem Cu.send {w0 wr : World} {R q : Nat} {a b : Int} {gn : Bool} {st : St} (h : Cu w0 wr R q a b gn st) (hq : q ≤ 1125899906842624) (n m : Int) (s : ByteArray) (hs : s.size ≤ 281474976710656) :
    Calls Try.prog 11 #[.pointer (some ⟨R, 0, none⟩), .int .i64 n, .int .i64 m, .string s] wr fun e w' => e = .returned (.tuple #[.int .i64 (sndN st n m), .int .i64 (sndE st n m)]) ∧ Cu w0 w' R (q + 1) a b gn (sndS st n m s) := by
  obtain ⟨S, t, hS⟩ := h.ml
  refine (send_all t h.gd n m s (by have := h.sq; omega) hs).mono ?_
  rintro e w' ⟨rfl, S', m', k', n'⟩
  obtain ⟨c1, c2, c3, z, c4⟩ := sndS_C st n m s
  refine ⟨rfl, h.go hS m' k' n' (h.gd.snd _ _ _) (by rw [c1]; exact h.ct) (fun g => ?_) c2 (by omega)⟩
  obtain ⟨r, e⟩ := h.hd g
  exact ⟨r ++ z, by rw [c4, e]; rfl⟩
theorem Cu.sendE {w0 wr : World} {R q : Nat} {a b : Int} {gn : Bool} {st : St} (h : Cu w0 wr R q a b gn st) (ha : adr a = true) (hb : adr b = true) {n m : Int} (ho : onLk (n, m, false) a b = true) : sndE st n m = 132 := by
  have hmm := onLk_mm ho
  have hnm : adr n = true ∧ adr m = true := by
    simp only [onLk, Bool.or_eq_true, Bool.and_eq_true, decide_eq_true_eq] at ho
    rcases ho with ⟨e1, e2⟩ | ⟨e1, e2⟩ <;> rw [e1, e2]
    · exact ⟨ha, hb⟩
    · exact ⟨hb, ha⟩
  unfold sndE
  rw [if_pos hnm, hmm.1, hmm.2, if_pos h.ct]
theorem Cu.deliver {w0 wr : World} {R q : Nat} {a b : Int} {gn : Bool} {st : St} (h : Cu w0 wr R q a b gn st) (i : Int) :
    Calls Try.prog 12 #[.pointer (some ⟨R, 0, none⟩), .int .i64 i] wr fun e w' => e = .returned (.tuple #[(dlvV st i).v, .int .i64 (dlvE st i)]) ∧ Cu w0 w' R (q + 1) a b gn (dlvS st i) := by
  obtain ⟨S, t, hS⟩ := h.ml
  refine (deliver_all t h.gd i).mono ?_
  rintro e w' ⟨rfl, m', k'⟩
  refine ⟨rfl, h.go hS m' k' (Nr.refl _ _) (h.gd.dlv _) ?_ (fun g => ?_) ?_ ?_⟩
  · unfold dlvS; split <;> exact h.ct
  · obtain ⟨r, e⟩ := h.hd g
    unfold dlvS
    split
    · rename_i he
      have hne : i.toNat ≠ 0 := by
        intro h0
        have hi := dlvE_ok he
        have hx : ltI st.L i = x1L a b := by unfold ltI; rw [h0, e]; rfl
        unfold dlvE at he
        rw [if_pos hi, hx] at he
        have hc : st.C (min (x1L a b).fr (x1L a b).td) (max (x1L a b).fr (x1L a b).td) = true := h.ct
        rw [if_pos hc] at he
        simp at he
      obtain ⟨r', e'⟩ := cons_erase (x := x1L a b) (r := r) hne
      exact ⟨r', by rw [← e', ← e]⟩
    · exact ⟨r, e⟩
  · unfold dlvS; split <;> simp
  · unfold dlvS; split <;> simp
theorem Cu.deliverE {w0 wr : World} {R q : Nat} {a b : Int} {gn : Bool} {st : St} (h : Cu w0 wr R q a b gn st) {i : Int} (he : dlvE st i = 0) : onLk ((dlvV st i).fr, (dlvV st i).td, false) a b = false := by
  have e2 : dlvV st i = ltI st.L i := by unfold dlvV; rw [if_pos he]
  rw [e2, Bool.eq_false_iff]
  intro ho
  have hmm := onLk_mm ho
  have hi := dlvE_ok he
  unfold dlvE at he
  rw [if_pos hi, hmm.1, hmm.2, if_pos h.ct] at he
  simp at he
theorem Cu.drop {w0 wr : World} {R q : Nat} {a b : Int} {gn : Bool} {st : St} (h : Cu w0 wr R q a b gn st) (i : Int) :
    Calls Try.prog 16 #[.pointer (some ⟨R, 0, none⟩), .int .i64 i] wr fun e w' => e = .returned (.int .i64 (drpE st i)) ∧ Cu w0 w' R (q + 1) a b (gn || decide (i = 0)) (drpS st i) := by
  obtain ⟨S, t, hS⟩ := h.ml
  refine (drop_all t h.gd i).mono ?_
  rintro e w' ⟨rfl, m', k'⟩
  refine ⟨rfl, h.go hS m' k' (Nr.refl _ _) (h.gd.drp _) ?_ (fun g => ?_) ?_ ?_⟩
  · unfold drpS; split <;> exact h.ct
  · simp only [Bool.or_eq_false_iff, decide_eq_false_iff_not] at g
    obtain ⟨r, e⟩ := h.hd g.1
    unfold drpS
    split
    · rename_i hi
      obtain ⟨r', e'⟩ := cons_erase (x := x1L a b) (r := r) (i := i.toNat) (by unfold okI at hi; omega)
      exact ⟨r', by rw [← e', ← e]⟩
    · exact ⟨r, e⟩
  · unfold drpS; split <;> simp
  · unfold drpS; split <;> simp
theorem Cu.copy {w0 wr : World} {R q : Nat} {a b : Int} {gn : Bool} {st : St} (h : Cu w0 wr R q a b gn st) (hq : q ≤ 1125899906842624) (i : Int) :
    Calls Try.prog 17 #[.pointer (some ⟨R, 0, none⟩), .int .i64 i] wr fun e w' => e = .returned (.int .i64 (cpyE st i)) ∧ Cu w0 w' R (q + 1) a b gn (cpyS st i) := by
  obtain ⟨S, t, hS⟩ := h.ml
  refine (copy_all t h.gd i (by have := h.sq; omega)).mono ?_
  rintro e w' ⟨rfl, S', m', k', n'⟩
  obtain ⟨c1, c2, c3, z, c4⟩ := cpyS_C st i
  refine ⟨rfl, h.go hS m' k' n' (h.gd.cpy _) (by rw [c1]; exact h.ct) (fun g => ?_) c2 (by omega)⟩
  obtain ⟨r, e⟩ := h.hd g
  exact ⟨r ++ z, by rw [c4, e]; rfl⟩
theorem Cu.cut {w0 wr : World} {R q : Nat} {a b : Int} {gn : Bool} {st : St} (h : Cu w0 wr R q a b gn st) (hq : q ≤ 1125899906842624) (n m : Int) :
    Calls Try.prog 14 #[.pointer (some ⟨R, 0, none⟩), .int .i64 n, .int .i64 m] wr fun e w' => e = .returned (.int .i64 (ckE n m)) ∧ Cu w0 w' R (q + 1) a b gn (cutS st n m) := by
  obtain ⟨S, t, hS⟩ := h.ml
  refine (cut_all t h.gd n m (by have := h.nq; unfold maxLen; omega)).mono ?_
  rintro e w' ⟨rfl, m', k'⟩
  refine ⟨rfl, h.go hS m' k' (Nr.refl _ _) (h.gd.cut _ _) ?_ (fun g => ?_) ?_ ?_⟩
  · unfold cutS
    split
    · show cutUp _ _ _ _ _ _ = _
      unfold cutUp
      split
      · rfl
      · exact h.ct
    · exact h.ct
  · unfold cutS
    split <;> exact h.hd g
  · unfold cutS; split <;> simp
  · unfold cutS; split <;> simp
theorem Cu.heal {w0 wr : World} {R q : Nat} {a b : Int} {gn : Bool} {st : St} (h : Cu w0 wr R q a b gn st) (n m : Int) (hn : onLk (n, m, false) a b = false) :
    Calls Try.prog 18 #[.pointer (some ⟨R, 0, none⟩), .int .i64 n, .int .i64 m] wr fun e w' => e = .returned (.int .i64 (ckE n m)) ∧ Cu w0 w' R (q + 1) a b gn (healS st n m) := by
  obtain ⟨S, t, hS⟩ := h.ml
  refine (heal_all t h.gd n m).mono ?_
  rintro e w' ⟨rfl, m', k'⟩
  refine ⟨rfl, h.go hS m' k' (Nr.refl _ _) (h.gd.heal _ _) ?_ (fun g => ?_) ?_ ?_⟩
  · unfold healS
    split
    · show cutUp _ _ _ _ _ _ = _
      unfold cutUp
      rw [if_neg (fun e => by rw [mm_onLk ⟨e.1.symm, e.2.symm⟩] at hn; simp at hn)]
      exact h.ct
    · exact h.ct
  · unfold healS
    split <;> exact h.hd g
  · unfold healS; split <;> simp
  · unfold healS; split <;> simp
theorem Cu.nI {w0 wr w' : World} {R q : Nat} {a b : Int} {gn : Bool} {st : St} (h : Cu w0 wr R q a b gn st) (hb : Below wr.heap.size wr w') : ∃ S, Ml w' S R st ∧ (∀ k, S k → w0.heap.size ≤ k) ∧ ¬ S wr.heap.size := by
  obtain ⟨S, t, s⟩ := h.ml
  exact ⟨S, t.below hb, s, fun e => by have := t.sb _ e; omega⟩
theorem Cu.sendI {w0 wr : World} {R q I : Nat} {a b : Int} {gn : Bool} {st : St} (h : Cu w0 wr R q a b gn st) (hI : ∃ S, Ml wr S R st ∧ (∀ k, S k → w0.heap.size ≤ k) ∧ ¬ S I) (hlt : I < wr.heap.size) (hq : q ≤ 1125899906842624) (n m : Int) (s : ByteArray) (hs : s.size ≤ 281474976710656) :
    Calls Try.prog 11 #[.pointer (some ⟨R, 0, none⟩), .int .i64 n, .int .i64 m, .string s] wr fun e w' => e = .returned (.tuple #[.int .i64 (sndN st n m), .int .i64 (sndE st n m)]) ∧ Cu w0 w' R (q + 1) a b gn (sndS st n m s) ∧ w'.heap[I]? = wr.heap[I]? := by
  obtain ⟨S, t, hS, hn⟩ := hI
  refine (send_all t h.gd n m s (by have := h.sq; omega) hs).mono ?_
  rintro e w' ⟨rfl, S', m', k', n'⟩
  obtain ⟨c1, c2, c3, z, c4⟩ := sndS_C st n m s
  refine ⟨rfl, h.go hS m' k' n' (h.gd.snd _ _ _) (by rw [c1]; exact h.ct) (fun g => ?_) c2 (by omega), k'.block _ hlt hn⟩
  obtain ⟨r, e⟩ := h.hd g
  exact ⟨r ++ z, by rw [c4, e]; rfl⟩
/-- the mail when the link is healed again -/
structure Cz (w0 wr : World) (R : Nat) (a b : Int) (gn : Bool) (st : St) : Prop where
  ml : ∃ S, Ml wr S R st ∧ ∀ k, S k → w0.heap.size ≤ k
  gd : Good st
  ct : st.C (min a b) (max a b) = false
  hd : gn = false → ∃ r, st.L = x1L a b :: r
  bl : Below w0.heap.size w0 wr
theorem Cu.close {w0 wr : World} {R q : Nat} {a b : Int} {gn : Bool} {st : St} (h : Cu w0 wr R q a b gn st) (ha : adr a = true ∧ adr b = true ∧ a ≠ b) :
    Calls Try.prog 18 #[.pointer (some ⟨R, 0, none⟩), .int .i64 a, .int .i64 b] wr fun e w' => e = .returned (.int .i64 0) ∧ Cz w0 w' R a b gn (healS st a b) := by
  obtain ⟨S, t, hS⟩ := h.ml
  have CK : ckE a b = 0 := by unfold ckE; rw [if_pos ha]
  refine (heal_all t h.gd a b).mono ?_
  rintro e w' ⟨rfl, m', k'⟩
  rw [CK]
  refine ⟨rfl, ⟨S, m', hS⟩, h.gd.heal _ _, ?_, fun g => ?_, h.bl.trans ⟨k'.os, k'.tape, k'.output, k'.size, fun j hj => k'.block j (by have := h.bl.size; omega) (fun e => by have := hS j e; omega)⟩⟩
  · unfold healS
    rw [if_pos CK]
    show cutUp _ _ _ _ _ _ = _
    unfold cutUp
    rw [if_pos ⟨by omega, by omega⟩]
  · unfold healS
    rw [if_pos CK]
    exact h.hd g
theorem Cz.last {w0 wr : World} {R : Nat} {a b : Int} {st : St} (h : Cz w0 wr R a b false st) :
    Calls Try.prog 12 #[.pointer (some ⟨R, 0, none⟩), .int .i64 0] wr fun e w' => e = .returned (.tuple #[(x1L a b).v, .int .i64 0]) ∧ Below w0.heap.size w0 w' := by
  obtain ⟨S, t, hS⟩ := h.ml
  obtain ⟨r, hr⟩ := h.hd rfl
  have hx : ltI st.L 0 = x1L a b := by unfold ltI; rw [hr]; rfl
  have hE : dlvE st 0 = 0 := by
    unfold dlvE
    rw [if_pos (by unfold okI; rw [hr]; simp only [List.length_cons]; omega), hx, if_neg]
    show ¬ st.C (min a b) (max a b) = true
    rw [h.ct]
    simp
  have hV : dlvV st 0 = x1L a b := by unfold dlvV; rw [if_pos hE]; exact hx
  refine (deliver_all t h.gd 0).mono ?_
  rintro e w' ⟨rfl, m', k'⟩
  rw [hE, hV]
  exact ⟨rfl, h.bl.trans ⟨k'.os, k'.tape, k'.output, k'.size, fun j hj => k'.block j (by have := h.bl.size; omega) (fun e => by have := hS j e; omega)⟩⟩
end Go.Proofs.Ytnphdbmacccblaa
