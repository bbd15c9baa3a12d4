import Derived.Test.YtnphdbmacccblabMoMark
import Derived.Test.YtnphdbmacccblabMbPl
import Derived.Test.YtnphdbmacccblabMbFresh
namespace Go.Proofs.Ytnphdbmacccblab
open Go.RowKit
theorem infoHd : (Try.prog.info? 40).map (fun i => (i.zero, i.size, i.bytes)) = some (some (.agg #[.slice none 0 0, .slice none 0 0, .slice none 0 0, .slice none 0 0]), 4, 96) := by kernel_rfl
theorem Bn.go {w w' : World} {F F' S : Nat → Prop} {B m : Nat} (h : Bn w F B m) (k : Kp w w' S) (hS : ∀ k, S k → F k) (h1 : ∀ k, F' k → F k ∨ w.heap.size ≤ k) (h2 : ∀ k, F' k → k < w'.heap.size) : Bn w' F' B m := by
  obtain ⟨p0, p1, q0, q1, S0, S1, a1, a2, a3, a4, a5, a6, a7⟩ := h
  have hB := blk_lt a1
  refine ⟨p0, p1, q0, q1, S0, S1, (k.block _ hB (fun e => a6 (hS _ e))).trans a1, a2.kp k (fun j e f => (a5 j (Or.inl e)).2.1 (hS j f)), a3.kp k (fun j e f => (a5 j (Or.inr e)).2.1 (hS j f)), a4, fun j e => ⟨(a5 j e).1, fun f => ?_, Nat.lt_of_lt_of_le (a5 j e).2.2 k.size⟩, fun f => ?_, h2⟩
  · rcases h1 j f with z | z
    · exact (a5 j e).2.1 z
    · have := (a5 j e).2.2
      omega
  · rcases h1 B f with z | z
    · exact a6 z
    · omega
/-- the book of what is held -/
structure Bk (w : World) (F : Nat → Prop) (v : Value) (hs : List Hd) : Prop where
  row : w.ownsRow 0 40 4 v hs.length (hdc hs)
  vF : ∀ k, v.ownBlock = some k → F k
  ex : ∃ T : Nat → Nat → Prop, (∀ j (hj : j < hs.length), HdAt w (T j) hs[j]) ∧ (∀ i j, i < hs.length → j < hs.length → i ≠ j → ∀ k, T i k → ¬ T j k) ∧ (∀ j, j < hs.length → ∀ k, T j k → F k ∧ v.ownBlock ≠ some k ∧ k < w.heap.size)
theorem Bk.nil (w : World) (F : Nat → Prop) : Bk w F (.slice none 0 0) [] := ⟨World.ownsRow_nil _ _ _ _, (fun k e => by cases e), fun _ _ => False, fun j hj => absurd hj (by simp), fun i j hi => absurd hi (by simp), fun j hj => absurd hj (by simp)⟩
theorem Bk.fr {w w' : World} {F : Nat → Prop} {v : Value} {hs : List Hd} (h : Bk w F v hs) (k : Fr F w w') : Bk w' F v hs := by
  obtain ⟨T, t1, t2, t3⟩ := h.ex
  exact ⟨own_kp h.row k.kp (fun j e f => f (h.vF j e)), h.vF, T, fun j hj => (t1 j hj).kp k.kp (fun i e f => f (t3 j hj i e).1), t2, fun j hj i e => ⟨(t3 j hj i e).1, (t3 j hj i e).2.1, Nat.lt_of_lt_of_le (t3 j hj i e).2.2 k.size⟩⟩
theorem Bk.mono {w : World} {F F' : Nat → Prop} {v : Value} {hs : List Hd} (h : Bk w F v hs) (hF : ∀ k, F k → F' k) : Bk w F' v hs := by
  obtain ⟨T, t1, t2, t3⟩ := h.ex
  exact ⟨h.row, fun k e => hF k (h.vF k e), T, t1, t2, fun j hj i e => ⟨hF i (t3 j hj i e).1, (t3 j hj i e).2⟩⟩
theorem hd_one (L : List Hd) (h : ∀ x ∈ L, (∃ a n c, x.vL = .slice a n c) ∧ (∃ a n c, x.vM = .slice a n c) ∧ (∃ a n c, x.vP = .slice a n c) ∧ ∃ a n c, x.vQ = .slice a n c) : ∀ u ∈ hdc L, u.oneCell' = true := by
  intro u hu
  simp only [hdc, List.mem_flatMap, Hd.cs] at hu
  obtain ⟨x, hx, hu⟩ := hu
  obtain ⟨⟨a1, n1, c1, e1⟩, ⟨a2, n2, c2, e2⟩, ⟨a3, n3, c3, e3⟩, ⟨a4, n4, c4, e4⟩⟩ := h x hx
  simp at hu
  rcases hu with rfl | rfl | rfl | rfl
  · rw [e1]; rfl
  · rw [e2]; rfl
  · rw [e3]; rfl
  · rw [e4]; rfl
theorem HdAt.sl {w : World} {T : Nat → Prop} {x : Hd} (h : HdAt w T x) : (∃ a n c, x.vL = .slice a n c) ∧ (∃ a n c, x.vM = .slice a n c) ∧ (∃ a n c, x.vP = .slice a n c) ∧ ∃ a n c, x.vQ = .slice a n c := by
  refine ⟨?_, ?_, ?_, ?_⟩
  · rcases h.l with ⟨e, _⟩ | ⟨G, e, _⟩
    · exact ⟨_, _, _, e⟩
    · exact ⟨_, _, _, e⟩
  · obtain ⟨a, c, e⟩ := own_sl h.m.1
    exact ⟨_, _, _, e⟩
  · obtain ⟨a, c, e⟩ := own_sl h.p.1
    exact ⟨_, _, _, e⟩
  · obtain ⟨a, c, e⟩ := own_sl h.q.1
    exact ⟨_, _, _, e⟩
theorem hd_cells {w : World} {b : Nat} {x : Hd} (h : w.heap[b]? = some (.cells #[x.vL, x.vM, x.vP, x.vQ] 40)) : ∀ j u, (hdc [x])[j]? = some u → w.cell? ((⟨b, 0, none⟩ : Addr).add j) = some u := by
  intro j u hj
  rw [Addr.add_mid, Nat.zero_add]
  unfold World.cell?
  rw [h]
  match j, hj with
  | 0, hj => simpa [hdc, Hd.cs] using hj
  | 1, hj => simpa [hdc, Hd.cs] using hj
  | 2, hj => simpa [hdc, Hd.cs] using hj
  | 3, hj => simpa [hdc, Hd.cs] using hj
  | (j + 4), hj => simp [hdc, Hd.cs] at hj
def pick (j0 : Nat) (T : Nat → Prop) (T0 : Nat → Nat → Prop) (j : Nat) : Nat → Prop := if j = j0 then T else T0 j
theorem pick_eq {j0 j : Nat} {T : Nat → Prop} {T0 : Nat → Nat → Prop} (h : j = j0) : pick j0 T T0 j = T := if_pos h
theorem pick_ne {j0 j : Nat} {T : Nat → Prop} {T0 : Nat → Nat → Prop} (h : ¬ j = j0) : pick j0 T T0 j = T0 j := if_neg h
/-- one more is held -/
theorem Bk.push {w0 w1 w2 : World} {F T : Nat → Prop} {v v2 : Value} {hs : List Hd} {x : Hd} (h : Bk w0 F v hs) (hF : ∀ k, F k → k < w0.heap.size) (hk : Fr F w0 w1) (hx : HdAt w1 T x) (hT : ∀ k, T k → w0.heap.size ≤ k ∧ k < w1.heap.size) (o2 : w2.ownsRow 0 40 4 v2 (hs.length + 1) (hdc hs ++ hdc [x])) (g2 : w1.grownBy w2 v.ownBlock) (a2 : v2.ownBlock = v.ownBlock ∨ v2.ownBlock = some w1.heap.size) :
    Bk w2 (fun k => F k ∨ w0.heap.size ≤ k ∧ k < w2.heap.size) v2 (hs ++ [x]) ∧ Kp w1 w2 (fun k => v.ownBlock = some k) := by
  have h1 := h.fr hk
  obtain ⟨T0, t1, t2, t3⟩ := h1.ex
  obtain ⟨_, _, _, t4⟩ := h.ex
  have k2 : Kp w1 w2 (fun k => v.ownBlock = some k) := (Kp.of_grown g2).mono (fun k e => e.symm)
  have vlt : ∀ k, v.ownBlock = some k → k < w0.heap.size := fun k e => hF k (h.vF k e)
  have sz1 := hk.size
  have sz2 := g2.size
  have bl2 : ∀ k, v2.ownBlock = some k → k < w2.heap.size := fun k e => by obtain ⟨cur, hc⟩ := own_blk o2 e; exact blk_lt hc
  have nT : ∀ k, T k → v2.ownBlock ≠ some k := fun k e f => by
    rcases a2 with a | a
    · have := vlt k (a.symm.trans f)
      have := (hT k e).1
      omega
    · rw [a] at f
      have := Option.some.inj f
      have := (hT k e).2
      omega
  refine ⟨⟨?_, fun k e => ?_, pick hs.length T T0, fun j hj => ?_, fun i j hi hj hij k e f => ?_, fun j hj k e => ?_⟩, k2⟩
  · rw [List.length_append, hdc_append]
    exact o2
  · rcases a2 with a | a
    · exact Or.inl (h.vF k (a.symm.trans e))
    · have := bl2 k e
      rw [a] at e
      have := Option.some.inj e
      exact Or.inr (by omega)
  · by_cases hjl : j = hs.length
    · subst hjl
      rw [pick_eq rfl, List.getElem_append_right (Nat.le_refl _)]
      simp only [Nat.sub_self, List.getElem_cons_zero]
      exact hx.kp k2 (fun k e f => by have := vlt k f; have := (hT k e).1; omega)
    · have hj' : j < hs.length := by simp at hj; omega
      rw [pick_ne hjl, List.getElem_append_left hj']
      exact (t1 j hj').kp k2 (fun k e => (t3 j hj' k e).2.1)
  · simp only [List.length_append, List.length_cons, List.length_nil] at hi hj
    by_cases hil : i = hs.length
    · rw [pick_eq hil] at e
      rw [pick_ne (by omega)] at f
      have := hF k (t3 j (by omega) k f).1
      have := (hT k e).1
      omega
    · rw [pick_ne hil] at e
      by_cases hjl : j = hs.length
      · rw [pick_eq hjl] at f
        have := hF k (t3 i (by omega) k e).1
        have := (hT k f).1
        omega
      · rw [pick_ne hjl] at f
        exact t2 i j (by omega) (by omega) hij k e f
  · simp only [List.length_append, List.length_cons, List.length_nil] at hj
    by_cases hjl : j = hs.length
    · rw [pick_eq hjl] at e
      have := hT k e
      exact ⟨Or.inr (by omega), nT k e, by omega⟩
    · rw [pick_ne hjl] at e
      obtain ⟨u1, u2, u3⟩ := t3 j (by omega) k e
      refine ⟨Or.inl u1, fun f => ?_, by omega⟩
      rcases a2 with a | a
      · exact u2 (a.symm.trans f)
      · rw [a] at f
        have := Option.some.inj f
        have := hF k u1
        omega
/-- one that is held is turned -/
theorem Bk.turn {w w1 : World} {F : Nat → Prop} {g cap : Nat} {hs : List Hd} {x : Hd} {sa : Option Addr} (j : Nat) (hj : j < hs.length) (h : Bk w F (.slice (some ⟨g, 0, none⟩) hs.length cap) hs) (hF : ∀ k, F k → k < w.heap.size) (hsa : ∃ n, hs[j].vL = .slice sa n n) (hk : Kp w w1 (Sa sa)) (hx : HdAt w1 (fun k => Sa sa k ∨ w.heap.size ≤ k ∧ k < w1.heap.size) x) :
    Bk (put4 w1 g j x.vL x.vM x.vP x.vQ) (fun k => F k ∨ w.heap.size ≤ k ∧ k < w1.heap.size) (.slice (some ⟨g, 0, none⟩) hs.length cap) (hs.set j x) ∧ Kp w (put4 w1 g j x.vL x.vM x.vP x.vQ) (fun k => F k) := by
  obtain ⟨T0, t1, t2, t3⟩ := h.ex
  obtain ⟨n, hn⟩ := hsa
  have gF := h.vF g rfl
  have gl := hF g gF
  -- the list's block is one of the entry's
  have sT : ∀ k, Sa sa k → T0 j k := fun k e => by
    have := (t1 j hj).l
    rw [hn] at this
    rcases this with ⟨e1, _⟩ | ⟨G, e1, _, e2⟩
    · simp only [Value.slice.injEq] at e1
      unfold Sa at e
      rw [e1.1] at e
      cases e
    · simp only [Value.slice.injEq] at e1
      unfold Sa at e
      rw [e1.1] at e
      cases e
      exact e2
  have sg : ∀ k, Sa sa k → k ≠ g := fun k e f => (t3 j hj k (sT k e)).2.1 (by rw [f]; rfl)
  have row1 : w1.ownsRow 0 40 4 (.slice (some ⟨g, 0, none⟩) hs.length cap) hs.length (hdc hs) := own_kp h.row hk (fun k e f => sg k f (by simpa [Value.ownBlock] using e.symm))
  have kg := put4_kp w1 g j x.vL x.vM x.vP x.vQ
  have szp : (put4 w1 g j x.vL x.vM x.vP x.vQ).heap.size = w1.heap.size := by unfold put4; simp only [World.size_setCell]
  have sz1 := hk.size
  refine ⟨⟨?_, fun k e => Or.inl (h.vF k e), pick j (fun k => Sa sa k ∨ w.heap.size ≤ k ∧ k < w1.heap.size) T0, fun i hi => ?_, fun i i' hi hi' hii k e f => ?_, fun i hi k e => ?_⟩, ?_⟩
  · rw [List.length_set, ← hdc_set]
    exact ((((row1.stored (j * 4) x.vL).1.stored (j * 4 + 1) x.vM).1.stored (j * 4 + 2) x.vP).1.stored (j * 4 + 3) x.vQ).1
  · rw [List.length_set] at hi
    by_cases hij : i = j
    · subst hij
      rw [pick_eq rfl, List.getElem_set_self]
      exact hx.kp kg (fun k e f => by
        rcases e with e | e
        · exact sg k e f
        · omega)
    · rw [pick_ne hij, List.getElem_set_ne (fun e => hij e.symm)]
      refine ((t1 i hi).kp hk (fun k e f => t2 i j hi hj hij k e (sT k f))).kp kg (fun k e f => ?_)
      exact (t3 i hi k e).2.1 (by rw [f]; rfl)
  · rw [List.length_set] at hi hi'
    by_cases h1 : i = j
    · rw [pick_eq h1] at e
      rw [pick_ne (by omega)] at f
      rcases e with e | e
      · exact t2 j i' hj hi' (by omega) k (sT k e) f
      · have := (t3 i' hi' k f).2.2
        omega
    · rw [pick_ne h1] at e
      by_cases h2 : i' = j
      · rw [pick_eq h2] at f
        rcases f with f | f
        · exact t2 i j hi hj h1 k e (sT k f)
        · have := (t3 i hi k e).2.2
          omega
      · rw [pick_ne h2] at f
        exact t2 i i' hi hi' hii k e f
  · rw [List.length_set] at hi
    by_cases h1 : i = j
    · rw [pick_eq h1] at e
      rcases e with e | e
      · have := t3 j hj k (sT k e)
        exact ⟨Or.inl this.1, this.2.1, by omega⟩
      · refine ⟨Or.inr e, fun f => ?_, by omega⟩
        simp [Value.ownBlock] at f
        omega
    · rw [pick_ne h1] at e
      have := t3 i hi k e
      exact ⟨Or.inl this.1, this.2.1, by omega⟩
  · exact (hk.mono (fun k e => (t3 j hj k (sT k e)).1)).trans kg (fun k e => Or.inl (by rw [e]; exact gF))
set_option maxHeartbeats 8000000 in
set_option maxRecDepth 100000 in
set_option linter.unusedSimpArgs false in
set_option linter.unusedVariables false in
theorem still_any {w : World} {F : Nat → Prop} {v : Value} {hs : List Hd} (h : Bk w F v hs) (hl : hs.length ≤ 1099511627776) :
    Calls Try.prog 14 #[v] w fun e w' => e = .returned (.bool true) ∧ Below w.heap.size w w' := by
  obtain ⟨ba, cap, hv⟩ := own_sl h.row
  subst hv
  have HB := hide h
  clear h
  go_enter Try.func14, Try.ntmps14
  go_wp2_with fail
  go_loopw [3] (fun vi wr => ∃ (q : Nat), q ≤ hs.length ∧ vi = .int .i64 (q : Int) ∧ Below w.heap.size w wr) (fun vi _ => hs.length - (intOf vi).toNat)
  case atStart => exact ⟨0, Nat.zero_le _, rfl, Below.refl _ _⟩
  case round =>
    obtain ⟨q, hq, rfl, hB⟩ := hrel
    have KB := hide hB
    have HX := hide (HB.out.fr (Fr.of_below F hB))
    clear hB
    by_cases hql : q < hs.length
    case pos =>
      obtain ⟨g, cap', hg⟩ := own_g HX.out.row (by omega)
      have hg2 : ba = some ⟨g, 0, none⟩ ∧ cap = cap' := by
        simp only [Value.slice.injEq, true_and] at hg
        exact hg
      obtain ⟨rfl, rfl⟩ := hg2
      clear hg
      obtain ⟨e0, e1, e2, e3⟩ := hdc_at hs q hql
      have c0 := (HX.out.row.cellAt (q * 4) (by omega)).trans e0
      have c1 := (HX.out.row.cellAt (q * 4 + 1) (by omega)).trans e1
      have c2 := (HX.out.row.cellAt (q * 4 + 2) (by omega)).trans e2
      have c3 := (HX.out.row.cellAt (q * 4 + 3) (by omega)).trans e3
      have XQ : Hid (∃ T, HdAt wr T hs[q]) := by
        obtain ⟨T, t1, _⟩ := HX.out.ex
        exact ⟨T q, t1 q hql⟩
      generalize hs[q] = y at *
      obtain ⟨vL, vM, vP, vQ, L, M⟩ := y
      dsimp only at c0 c1 c2 c3
      have LS : Hid (LL wr vL L ∧ LL wr vM M ∧ LL wr vP L ∧ LL wr vQ M ∧ L.length ≤ 1024 ∧ M.length ≤ 1088) := by
        obtain ⟨T, t⟩ := XQ.out
        exact ⟨t.l.ll, t.m.ll, t.p.ll, t.q.ll, t.ll, t.lm⟩
      clear XQ e0 e1 e2 e3
      have hqi : (q : Int) < (hs.length : Int) := by omega
      go_upto_region 4 with fail
      go_quiet ((go_at_call 8; first | exact Calls.quiet_of (sameLetters_q (LS.out.1.below ⟨rfl, rfl, rfl, Nat.le_refl _, fun _ _ => rfl⟩) (LS.out.2.2.1.below ⟨rfl, rfl, rfl, Nat.le_refl _, fun _ _ => rfl⟩) (by have := LS.out.2.2.2.2.1; omega)) | exact Calls.quiet_of (sameLetters_q (LS.out.2.1.below ⟨rfl, rfl, rfl, Nat.le_refl _, fun _ _ => rfl⟩) (LS.out.2.2.2.1.below ⟨rfl, rfl, rfl, Nat.le_refl _, fun _ _ => rfl⟩) (by have := LS.out.2.2.2.2.2; omega))))
      have KD : Hid (Below w.heap.size w (wr.drewN nq)) := KB.out.trans ⟨rfl, rfl, rfl, Nat.le_refl _, fun _ _ => rfl⟩
      generalize wr.drewN nq = W at *
      clear c0 c1 c2 c3 LS HX
      go_wp2_with fail
      go_roundw
      case rel => exact ⟨q + 1, by omega, by go_num, KD.out⟩
      case measure => simp [intOf]; omega
    case neg =>
      obtain rfl : q = hs.length := by omega
      go_wp2_with fail
      go_ret
      exact ⟨rfl, KB.out⟩
theorem pl_fly {w : World} {S : Nat → Prop} {p q : Value} {m : Nat} (h : Pl w S p q m) (hm : m ≤ 3298534883327) : ∃ L : List Lt, L.length ≤ 1024 ∧
    (∀ w', Below w.heap.size w w' → Calls Try.prog 7 #[p] w' fun e w2 => ∃ sa, e = .returned (.slice sa L.length L.length) ∧ Lz w2 sa L ∧ (∀ k, Sa sa k → w'.heap.size ≤ k) ∧ Below w'.heap.size w' w2) ∧
    (∀ w', Below w.heap.size w w' → Calls Try.prog 9 #[q] w' fun e w2 => ∃ v, e = .returned v ∧ LL w2 v L ∧ Below w'.heap.size w' w2) := by
  rcases h with ⟨rfl, rfl⟩ | ⟨R, Q, d, rfl, rfl, h3, h4, h5, h6⟩
  · refine ⟨[], by simp, fun w' _ => (flying_nil w').mono ?_, fun w' _ => (rflying_nil w').mono ?_⟩
    · rintro e w2 ⟨rfl, rfl⟩
      exact ⟨none, rfl, Or.inl ⟨rfl, rfl⟩, (fun k e => by cases e), Below.refl _ _⟩
    · rintro e w2 ⟨rfl, rfl⟩
      exact ⟨_, rfl, LL.of_own (base := 0) (World.ownsRow_nil _ _ _ _), Below.refl _ _⟩
  · refine ⟨live d.A, by have := h4.le; have := h4.l2; omega, fun w' hb => ?_, fun w' hb => ?_⟩
    · obtain ⟨S1, S2, n, ⟨M, v, hm'⟩, _⟩ := h3.below hb
      refine (flying_any hm' h4.l1 (h4.good n).len).mono ?_
      rintro e w2 ⟨rfl, hl, hb2⟩
      exact ⟨_, rfl, Or.inr ⟨_, rfl, hl⟩, fun k e => by unfold Sa at e; cases e; exact Nat.le_refl _, hb2⟩
    · exact q_flying (h3.below hb) ⟨by omega, by omega⟩
end Go.Proofs.Ytnphdbmacccblab
