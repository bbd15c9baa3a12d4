import Derived.Test.YtnegdhnmgkpkjaaGDdCalls
import Derived.Test.YtnegdhnmgkpkjaaGDdDrive
namespace Go.Proofs.Ytnegdhnmgkpkjaa
open Go.RowKit
theorem info_parts {t : TypeId} {z : Value} {n m : Nat} (h : (Try.prog.info? t).map (fun i => (i.zero, i.size, i.bytes)) = some (some z, n, m)) : ∃ i, Try.prog.info? t = some i ∧ i.zero = some z ∧ i.size = n ∧ i.bytes = m := by
  cases e : Try.prog.info? t with
  | none => rw [e] at h; simp at h
  | some i =>
    rw [e] at h
    simp only [Option.map_some, Option.some.injEq, Prod.mk.injEq] at h
    exact ⟨i, rfl, h.1, h.2.1, h.2.2⟩
theorem ml_infos : (Try.prog.info? 85).map (fun i => (i.zero, i.size, i.bytes)) = some (some (.slice none 0 0), 1, 24) := by kernel_rfl
theorem mk_infos : (Try.prog.info? 87).map (fun i => (i.zero, i.size, i.bytes)) = some (some (.agg #[.bool false, .int .i64 0]), 2, 16) := by kernel_rfl
theorem int_infos : (Try.prog.info? 3).map (fun i => (i.zero, i.size, i.bytes)) = some (some (.int .i64 0), 1, 8) := by kernel_rfl
theorem cell_row {w : World} {b : Nat} {A : Array Value} {t : TypeId} (h : w.heap[b]? = some (.cells A t)) (i : Nat) : w.cell? ⟨b, i, none⟩ = A[i]? := by
  unfold World.cell?; rw [h]; rfl
theorem fz_row {w : World} {b : Nat} {A : Array Value} {t : TypeId} (h : w.heap[b]? = some (.cells A t)) (i : Nat) : w.frozen? ⟨b, i, none⟩ = false := by
  unfold World.frozen?; rw [h]; simp
theorem own_base {w : World} {base base' e sz n : Nat} {v : Value} {xs : List Value} (h : w.ownsRow base e sz v n xs) (hb : base' ≤ base) : w.ownsRow base' e sz v n xs := by
  refine ⟨h.1, ?_⟩
  rcases h.2 with ⟨hv, hz⟩ | ⟨g, cap, cur, hv, h1, h2⟩
  · exact .inl ⟨hv, hz⟩
  · exact .inr ⟨g, cap, cur, hv, Nat.le_trans hb h1, h2⟩
theorem own_ge {X : World} {base e sz n g : Nat} {v : Value} {xs : List Value} (h : X.ownsRow base e sz v n xs) (hg : v.ownBlock = some g) : base ≤ g := by
  rcases h.2 with ⟨rfl, _⟩ | ⟨g', cap, cur, rfl, hb, hg', hr⟩
  · simp [Value.ownBlock] at hg
  · simp [Value.ownBlock] at hg
    subst hg
    exact hb
theorem own_typ {X : World} {base e sz n g : Nat} {v : Value} {xs : List Value} (h : X.ownsRow base e sz v n xs) (hg : v.ownBlock = some g) : ∃ cur, X.heap[g]? = some (.cells cur e (0, 0)) := by
  rcases h.2 with ⟨rfl, _⟩ | ⟨g', cap, cur, rfl, hb, hg', hr⟩
  · simp [Value.ownBlock] at hg
  · simp [Value.ownBlock] at hg
    subst hg
    exact ⟨cur, hg'⟩
theorem own_lt {X : World} {base e sz n g : Nat} {v : Value} {xs : List Value} (h : X.ownsRow base e sz v n xs) (hg : v.ownBlock = some g) : g < X.heap.size := by
  obtain ⟨cur, hc⟩ := own_typ h hg
  exact blk_lt hc
theorem own_re {X : World} {base base' e sz n : Nat} {v : Value} {xs : List Value} (h : X.ownsRow base e sz v n xs) (hg : ∀ g, v.ownBlock = some g → base' ≤ g) : X.ownsRow base' e sz v n xs := by
  refine ⟨h.1, ?_⟩
  rcases h.2 with ⟨hv, hz⟩ | ⟨g, cap, cur, rfl, h1, h2⟩
  · exact .inl ⟨hv, hz⟩
  · exact .inr ⟨g, cap, cur, rfl, hg g rfl, h2⟩
/-- a cell of a row -/
theorem own_at {X : World} {base e sz n : Nat} {v : Value} {xs : List Value} (h : X.ownsRow base e sz v n xs) {j : Nat} {u : Value} (hj : xs[j]? = some u) : ∃ g cap, v = .slice (some ⟨g, 0, none⟩) n cap ∧ X.cell? ⟨g, j, none⟩ = some u ∧ X.frozen? ⟨g, j, none⟩ = false := by
  have hl := (List.getElem?_eq_some_iff.1 hj).1
  rcases h.2 with ⟨_, hz⟩ | ⟨g, cap, cur, rfl, h1, h2, h3, h4, h5, h6⟩
  · have := h.1
    rw [hz] at this
    omega
  · refine ⟨g, cap, rfl, ?_, ?_⟩
    · rw [cell_row h2]
      rw [← h6, List.getElem?_take] at hj
      split at hj
      · simpa using hj
      · simp at hj
    · exact fz_row h2 j
/-- a detector of the document's -/
def mks (l : List Int) : List Value := l.flatMap fun t => [.bool false, .int .i64 t]
theorem mks_append (a b : List Int) : mks (a ++ b) = mks a ++ mks b := List.flatMap_append
theorem mks_len (l : List Int) : (mks l).length = l.length * 2 := by
  unfold mks
  induction l with
  | nil => rfl
  | cons s l ih => simp only [List.flatMap_cons, List.length_append, ih, List.length_cons, List.length_nil]; omega
theorem mks_at : ∀ (l : List Int) (q : Nat) (h : q < l.length), (mks l)[q * 2 + 1]? = some (.int .i64 l[q])
  | [], q, h => absurd h (by simp)
  | s :: l, 0, _ => by simp [mks]
  | s :: l, q + 1, h => by
    have ih := mks_at l q (by simpa using h)
    rw [show (q + 1) * 2 + 1 = q * 2 + 1 + 1 + 1 by omega]
    simpa [mks] using ih
theorem mks_one (l : List Int) : ∀ u ∈ mks l, u.oneCell' = true := by
  intro u hu
  unfold mks at hu
  obtain ⟨s, _, hs⟩ := List.mem_flatMap.1 hu
  simp at hs
  rcases hs with rfl | rfl <;> rfl
def RfB (w : World) (R : Nat) (vs : Value) (d : Dt) : Prop := w.heap[R]? = some (.cells #[.int .i64 (d.n : Int), .int .i64 d.lim, .int .i64 d.ban, .int .i64 d.now, vs] 79)
def lastT (l : List Int) : Int := l.getLastD 0
structure RfIn (w : World) (R : Nat) (vs : Value) (pv : Nat → Value) (tm : Nat → List Int) (d : Dt) : Prop where
  blk : RfB w R vs d
  row : w.ownsRow 0 85 1 vs d.n ((List.range d.n).map pv)
  ms : ∀ i, i < d.n → w.ownsRow 0 87 2 (pv i) (tm i).length (mks (tm i))
  ap : ∀ i j, i < d.n → j < d.n → i ≠ j → ∀ b, (pv i).ownBlock = some b → (pv j).ownBlock ≠ some b
  hl : ∀ i, i < d.n → ((tm i).length : Int) = d.st (i : Int)
  he : ∀ i, i < d.n → d.en (i : Int) = if d.lim ≤ ((tm i).length : Int) then lastT (tm i) + d.ban else 0
  hb : ∀ i, i < d.n → ∀ t ∈ tm i, 0 ≤ t ∧ t ≤ d.now
def RfS (R : Nat) (vs : Value) (pv : Nat → Value) (n : Nat) : Nat → Prop := fun k => k = R ∨ vs.ownBlock = some k ∨ ∃ i, i < n ∧ (pv i).ownBlock = some k
def RfAt (w : World) (S : Nat → Prop) (R : Nat) (d : Dt) : Prop := ∃ vs pv tm, RfIn w R vs pv tm d ∧ ∀ k, S k ↔ RfS R vs pv d.n k
section
variable {w w' : World} {R : Nat} {vs : Value} {pv : Nat → Value} {tm : Nat → List Int} {d : Dt} {S : Nat → Prop}
theorem RfIn.kp (h : RfIn w R vs pv tm d) {T : Nat → Prop} (hk : Kp w w' T) (hT : ∀ k, RfS R vs pv d.n k → ¬ T k) : RfIn w' R vs pv tm d :=
  ⟨(hk.block R (blk_lt h.blk) (hT R (Or.inl rfl))).trans h.blk, own_kp h.row hk (fun k e => hT k (Or.inr (Or.inl e))), fun i hi => own_kp (h.ms i hi) hk (fun k e => hT k (Or.inr (Or.inr ⟨i, hi, e⟩))), h.ap, h.hl, h.he, h.hb⟩
theorem RfAt.kp (h : RfAt w S R d) {T : Nat → Prop} (hk : Kp w w' T) (hT : ∀ k, S k → ¬ T k) : RfAt w' S R d := by
  obtain ⟨vs, pv, tm, hi, hS⟩ := h
  exact ⟨vs, pv, tm, hi.kp hk (fun k e => hT k ((hS k).2 e)), hS⟩
theorem RfAt.below (h : RfAt w S R d) (hb : Below w.heap.size w w') : RfAt w' S R d := h.kp (Kp.of_below hb non) (fun _ _ f => f)
theorem RfAt.lt (h : RfAt w S R d) : ∀ k, S k → k < w.heap.size := fun k hk => by
  obtain ⟨vs, pv, tm, hi, hS⟩ := h
  rcases (hS k).1 hk with rfl | e | ⟨i, hi', e⟩
  · exact blk_lt hi.blk
  · exact own_lt hi.row e
  · exact own_lt (hi.ms i hi') e
theorem RfB.c0 (h : RfB w R vs d) : w.cell? ⟨R, 0, none⟩ = some (.int .i64 (d.n : Int)) := cell_row h 0
theorem RfB.c1 (h : RfB w R vs d) : w.cell? ⟨R, 1, none⟩ = some (.int .i64 d.lim) := cell_row h 1
theorem RfB.c2 (h : RfB w R vs d) : w.cell? ⟨R, 2, none⟩ = some (.int .i64 d.ban) := cell_row h 2
theorem RfB.c3 (h : RfB w R vs d) : w.cell? ⟨R, 3, none⟩ = some (.int .i64 d.now) := cell_row h 3
theorem RfB.c4 (h : RfB w R vs d) : w.cell? ⟨R, 4, none⟩ = some vs := cell_row h 4
end
/-- append(row, nil) -/
theorem wpList_apN {w : World} {ops : Array Oper} {rest : List Oper} {o : Oper} {a : Act} {Q : Exit → Act → World → Prop} (hgd : o.guard = none) (x y : Operand) (ho : o.op = .call { callee := .builtin .append, args := #[x, y], argTypes := #[77, 77] }) (base : Nat) (v : Value) (n : Nat) (L : List Value) (hx : a.eval x = v) (hv : w.ownsRow base 85 1 v n L) (g : Nat) (hy : a.eval y = .slice (some ⟨g, 0, none⟩) 1 1) (hg : w.heap[g]? = some (.cells #[.slice none 0 0] 85)) (hl : n ≤ 1000000) (hb : base ≤ w.heap.size)
    (h : ∀ v' w', w'.ownsRow base 85 1 v' (n + 1) (L ++ [.slice none 0 0]) → w.grownBy w' v.ownBlock → wpList Try.prog ops Q rest (a.put o.dst v') w') : wpList Try.prog ops Q (o :: rest) a w := by
  obtain ⟨i0, hi, hz0, hz1, hz2⟩ := info_parts ml_infos
  refine wpList_append_own_at _ hgd _ _ 77 ho base 85 i0 _ 1 24 Try.underlying77 hi hz0 hz1 hz2 rfl (by decide) _ _ _ hx hv ⟨g, 0, none⟩ 1 1 [.slice none 0 0] hy rfl ?_ (by simp [Value.oneCell']) (by unfold maxLen; omega) (by omega) hb ?_
  · intro j u hj
    rw [Addr.add_mid, Nat.zero_add, cell_row hg]
    simpa using hj
  · intro v' w' h1 h2 _ _
    exact h v' w' h1 h2
end Go.Proofs.Ytnegdhnmgkpkjaa
namespace Go.Proofs.Ytnegdhnmgkpkjaa
open Go.RowKit
set_option maxHeartbeats 4000000 in
set_option maxRecDepth 100000 in
set_option linter.unusedSimpArgs false in
set_option linter.unusedVariables false in
theorem rNew_no (w : World) (a b c : Int) (h : ¬ okN a b c) :
    Calls Try.prog 32 #[.int .i64 a, .int .i64 b, .int .i64 c] w fun e w' => e = .returned (.tuple #[.pointer none, .int .i64 1]) ∧ w = w' := by
  have hc : a < 1 ∨ (¬ a < 1 ∧ 16 < a) ∨ ((¬ a < 1 ∧ ¬ 16 < a) ∧ b < 1) ∨ ((¬ a < 1 ∧ ¬ 16 < a) ∧ ¬ b < 1 ∧ 64 < b) ∨ ((¬ a < 1 ∧ ¬ 16 < a) ∧ (¬ b < 1 ∧ ¬ 64 < b) ∧ c < 1) ∨ ((¬ a < 1 ∧ ¬ 16 < a) ∧ (¬ b < 1 ∧ ¬ 64 < b) ∧ ¬ c < 1 ∧ 1024 < c) := by
    unfold okN at h
    omega
  clear h
  rcases hc with h1 | ⟨h1, h2⟩ | ⟨⟨h1, h2⟩, h3⟩ | ⟨⟨h1, h2⟩, h3, h4⟩ | ⟨⟨h1, h2⟩, ⟨h3, h4⟩, h5⟩ | ⟨⟨h1, h2⟩, ⟨h3, h4⟩, h5, h6⟩
  all_goals
    go_enter Try.func32, Try.ntmps32
    go_wp2_with fail
    go_ret2
    exact ⟨rfl, rfl⟩
theorem rep_len (i : Nat) (v : Value) : (List.replicate i v).length = i := List.length_replicate
theorem rep_map (n : Nat) (v : Value) : (List.range n).map (fun _ => v) = List.replicate n v := by
  apply List.ext_getElem <;> simp
set_option maxHeartbeats 4000000 in
set_option maxRecDepth 100000 in
set_option linter.unusedSimpArgs false in
set_option linter.unusedVariables false in
theorem rNew_any (w : World) (a b c : Int) (h : okN a b c) :
    Calls Try.prog 32 #[.int .i64 a, .int .i64 b, .int .i64 c] w fun e w' => ∃ R S, e = .returned (.tuple #[.pointer (some ⟨R, 0, none⟩), .int .i64 0]) ∧ RfAt w' S R (Dt.new a.toNat b c) ∧ Below w.heap.size w w' ∧ ∀ k, S k → w.heap.size ≤ k := by
  obtain ⟨⟨h1, h2⟩, ⟨h3, h4⟩, h5, h6⟩ := h
  obtain ⟨n, rfl⟩ : ∃ n : Nat, a = (n : Int) := ⟨a.toNat, by omega⟩
  have hn16 : n ≤ 16 := by omega
  have k1 : ¬ (n : Int) < 1 := by omega
  have k2 : ¬ 16 < (n : Int) := by omega
  have k3 : ¬ b < 1 := by omega
  have k4 : ¬ 64 < b := by omega
  have k5 : ¬ c < 1 := by omega
  have k6 : ¬ 1024 < c := by omega
  obtain ⟨W0, hW0⟩ : ∃ W0, W0 = w.alloc (.cells #[.int .i64 (n : Int), .int .i64 b, .int .i64 c, .int .i64 0, .slice none 0 0] 79) := ⟨_, rfl⟩
  obtain ⟨R, hR⟩ : ∃ R, R = w.heap.size := ⟨_, rfl⟩
  have hb0 : Below w.heap.size w W0 := by rw [hW0]; exact (Below.refl _ _).alloc (Nat.le_refl _) _
  have g0 : W0.heap[R]? = some (.cells #[.int .i64 (n : Int), .int .i64 b, .int .i64 c, .int .i64 0, .slice none 0 0] 79) := by rw [hW0, hR]; exact heap_last _ _
  have HRw : Hid (w.heap.size ≤ R) := by show _ ≤ _; omega
  have G0 := hide g0
  have HB0 := hide hb0
  clear g0 hb0 h1 h2 h3 h4 h5 h6
  go_enter Try.func32, Try.ntmps32
  go_wp2_with fail
  rw [← hW0, ← hR]
  clear hW0 hR
  go_loopw [9] (fun vi wr => ∃ (i : Nat) (ba : Option Addr) (cap : Nat), i ≤ n ∧ vi = .int .i64 (i : Int) ∧ Hid (wr.heap[R]? = some (.cells #[.int .i64 (n : Int), .int .i64 b, .int .i64 c, .int .i64 0, .slice ba i cap] 79)) ∧ Hid (wr.ownsRow w.heap.size 85 1 (.slice ba i cap) i (List.replicate i (.slice none 0 0))) ∧ Hid (Below w.heap.size w wr)) (fun vi _ => n - (intOf vi).toNat)
  case atStart => exact ⟨0, none, 0, Nat.zero_le _, rfl, G0.out, World.ownsRow_nil _ _ _ _, HB0.out⟩
  case round =>
    obtain ⟨i, ba, cap, hi, rfl, HG, HO, HB⟩ := hrel
    clear G0 HB0
    by_cases hin : i < n
    case pos =>
      have hii : (i : Int) < (n : Int) := by omega
      have c4 : wr.cell? ⟨R, 4, none⟩ = some (.slice ba i cap) := cell_row HG.out 4
      obtain ⟨W1, hW1⟩ : ∃ W1, W1 = wr.alloc (.cells #[.slice none 0 0] 85) := ⟨_, rfl⟩
      have hb1 : Below wr.heap.size wr W1 := by rw [hW1]; exact (Below.refl _ _).alloc (Nat.le_refl _) _
      have gg : W1.heap[wr.heap.size]? = some (.cells #[.slice none 0 0] 85) := by rw [hW1]; exact heap_last _ _
      have O1 := own_kp HO.out (Kp.of_below hb1 non) (fun _ _ f => f)
      have hsz : w.heap.size ≤ W1.heap.size := Nat.le_trans HB.out.size hb1.size
      have HG1 : Hid (W1.heap[R]? = some (.cells #[.int .i64 (n : Int), .int .i64 b, .int .i64 c, .int .i64 0, .slice ba i cap] 79)) := (hb1.block R (blk_lt HG.out)).trans HG.out
      have K1 := hide ((Kp.of_below HB.out non).trans (Kp.of_below hb1 non) (fun _ f => f.elim))
      have HO1 := hide O1
      have HGG := hide gg
      clear O1 gg hb1
      have HGf : Hid (∀ w', W1.grownBy w' (Value.slice ba i cap).ownBlock → w'.heap[R]? = some (.cells #[.int .i64 (n : Int), .int .i64 b, .int .i64 c, .int .i64 0, .slice ba i cap] 79)) := fun w' g2 => by
        refine (g2.block R (blk_lt HG1.out) (fun e => ?_)).trans HG1.out
        obtain ⟨cur, hc⟩ := own_typ HO1.out e.symm
        have := HG1.out.symm.trans hc
        simp at this
      go_wp2_with (at_builtin; rw [← hW1]; refine wpList_apN rfl (.tmp 46) (.tmp 47) rfl w.heap.size _ i (List.replicate i (.slice none 0 0)) rfl HO1.out wr.heap.size rfl HGG.out (by omega) hsz ?_; intro v' w' o2 g2; obtain ⟨ba', cap', rfl⟩ := own_sl o2; have HG2 := hide (HGf.out w' g2); have f4 := fz_row HG2.out 4; have d4 := cell_row HG2.out 4; have HO2 := hide o2; have K2 : Hid (Kp w w' non) := (K1.out.trans (Kp.of_grown g2) (fun k hk => Or.inr (own_ge HO1.out hk.symm))); clear o2 g2 c4 hW1 HG HO HB HG1 HO1 K1 HGG hsz HGf)
      go_roundw
      case rel =>
        refine ⟨i + 1, ba', cap', by omega, by go_num, ?_, ?_, ?_⟩
        · have := heap_setCell _ R 4 (.slice ba' (i + 1) cap') _ _ _ HG2.out
          exact this
        · have e := List.replicate_succ' (n := i) (a := Value.slice none 0 0)
          rw [e]
          refine own_kp (S := fun k => k = R) HO2.out ((Kp.refl _ (fun k => k = R)).set (Or.inl rfl) _ _) (fun k hk e => ?_)
          obtain ⟨cur, hc⟩ := own_typ HO2.out hk
          rw [e] at hc
          have := HG2.out.symm.trans hc
          simp at this
        · exact (K2.out.set (Or.inr HRw.out) _ _).below
      case measure => simp [intOf]; omega
    case neg =>
      obtain rfl : i = n := by omega
      go_wp2_with fail
      go_ret2
      refine ⟨R, RfS R (.slice ba i cap) (fun _ => .slice none 0 0) i, rfl, ⟨.slice ba i cap, fun _ => .slice none 0 0, fun _ => [], ⟨?_, ?_, fun j hj => ?_, fun j k hj hk hne b hb => ?_, fun j hj => rfl, fun j hj => ?_, fun j hj t ht => by cases ht⟩, fun k => ?_⟩, HB.out, fun k hk => ?_⟩
      · show wr.heap[R]? = _
        rw [HG.out]
        rfl
      · show wr.ownsRow 0 _ 1 _ ((i : Int).toNat) ((List.range (i : Int).toNat).map _)
        rw [show ((i : Int).toNat) = i from Int.toNat_natCast i, rep_map]
        exact own_base HO.out (Nat.zero_le _)
      · exact World.ownsRow_nil _ _ _ _
      · simp [Value.ownBlock] at hb
      · show (0 : Int) = _
        rw [if_neg (by show ¬ b ≤ _; simp; omega)]
      · show _ ↔ RfS R _ _ ((i : Int).toNat) k
        rw [show ((i : Int).toNat) = i from Int.toNat_natCast i]
      · rcases hk with rfl | e | ⟨j, hj, e⟩
        · exact HRw.out
        · exact own_ge HO.out e
        · simp [Value.ownBlock] at e
end Go.Proofs.Ytnegdhnmgkpkjaa
namespace Go.Proofs.Ytnegdhnmgkpkjaa
open Go.RowKit
theorem results_tmp4 {fn : Func} {t u v z : Tmp} (h : fn.results = #[.tmp t, .tmp u, .tmp v, .tmp z]) (tmps : Array Value) (P : Program) (w : World) :
    (results fn tmps).run P w = .ok (.tuple #[tmps.getD t undef, tmps.getD u undef, tmps.getD v undef, tmps.getD z undef]) w := by
  simp [results, h]
set_option maxHeartbeats 4000000 in
set_option maxRecDepth 100000 in
set_option linter.unusedSimpArgs false in
set_option linter.unusedVariables false in
theorem made_no (w : World) (a b c : Int) (h : ¬ okN a b c) :
    Calls Try.prog 17 #[.agg #[.int .i64 a, .int .i64 b, .int .i64 c]] w fun e w' => e = .returned (.tuple #[.pointer none, .pointer none, .bool true, .bool false]) ∧ Below w.heap.size w w' := by
  obtain ⟨W0, hW0⟩ : ∃ W0, W0 = w.alloc (.cells #[.int .i64 a, .int .i64 b, .int .i64 c] 23) := ⟨_, rfl⟩
  obtain ⟨U, hU⟩ : ∃ U, U = w.heap.size := ⟨_, rfl⟩
  have hb : Below w.heap.size w W0 := by rw [hW0]; exact (Below.refl _ _).alloc (Nat.le_refl _) _
  have su : SuB W0 U a b c := by rw [hW0, hU]; exact heap_last _ _
  obtain ⟨c0, c1, c2⟩ := su.cs
  have NU := hide fun w n => num_any w n
  have NE := hide (New_no W0 a b c h)
  have RE := hide (rNew_no W0 a b c h)
  have HB := hide hb
  clear h hb su
  go_enter Try.func17, Try.ntmps17
  go_wp2_with fail
  rw [← hW0, ← hU]
  clear hW0 hU
  go_wp2_with fail
  refine Calls.mono NE.out ?_
  rintro e W1 ⟨rfl, rfl⟩
  go_wp2_with fail
  refine Calls.mono RE.out ?_
  rintro e W1 ⟨rfl, rfl⟩
  go_wp2_with fail
  refine Calls.mono (NU.out _ _) ?_
  rintro e W1 ⟨rfl, rfl⟩
  go_wp2_with fail
  (try simp only [Exit.inBlock, Exit.then])
  refine bodyPost_ret (results_tmp4 rfl _ _ _) rfl ?_
  exact ⟨rfl, HB.out⟩
set_option maxHeartbeats 4000000 in
set_option maxRecDepth 100000 in
set_option linter.unusedSimpArgs false in
set_option linter.unusedVariables false in
theorem made_any (w : World) (a b c : Int) (h : okN a b c) :
    Calls Try.prog 17 #[.agg #[.int .i64 a, .int .i64 b, .int .i64 c]] w fun e w' => ∃ D S R T, e = .returned (.tuple #[.pointer (some ⟨D, 0, none⟩), .pointer (some ⟨R, 0, none⟩), .bool true, .bool true]) ∧ DtAt w' S D (Dt.new a.toNat b c) ∧ RfAt w' T R (Dt.new a.toNat b c) ∧ Below w.heap.size w w' ∧ (∀ k, S k → w.heap.size ≤ k) ∧ (∀ k, T k → w.heap.size ≤ k) ∧ ∀ k, S k → ¬ T k := by
  obtain ⟨W0, hW0⟩ : ∃ W0, W0 = w.alloc (.cells #[.int .i64 a, .int .i64 b, .int .i64 c] 23) := ⟨_, rfl⟩
  obtain ⟨U, hU⟩ : ∃ U, U = w.heap.size := ⟨_, rfl⟩
  have hb : Below w.heap.size w W0 := by rw [hW0]; exact (Below.refl _ _).alloc (Nat.le_refl _) _
  have su : SuB W0 U a b c := by rw [hW0, hU]; exact heap_last _ _
  obtain ⟨c0, c1, c2⟩ := su.cs
  have NU := hide fun w n => num_any w n
  have NE := hide (New_any W0 a b c h)
  have RE := hide fun W => rNew_any W a b c h
  have HB := hide hb
  have SU := hide su
  clear h hb su
  go_enter Try.func17, Try.ntmps17
  go_wp2_with fail
  rw [← hW0, ← hU]
  clear hW0 hU
  go_wp2_with fail
  refine Calls.mono NE.out ?_
  rintro e W1 ⟨D, S, rfl, hD, hB1, hS⟩
  have SU1 := hide (SU.out.kp (Kp.of_below hB1 non) (fun f => f))
  have HD := hide hD
  have HS := hide hS
  have HB1 := hide hB1
  clear c0 c1 c2 hD hB1 hS NE
  obtain ⟨c0, c1, c2⟩ := SU1.out.cs
  go_wp2_with fail
  refine Calls.mono (RE.out _) ?_
  rintro e W2 ⟨R, T, rfl, hR, hB2, hT⟩
  have HR := hide hR
  have HT := hide hT
  have HB2 := hide hB2
  clear c0 c1 c2 hR hT hB2 RE
  go_wp2_with fail
  refine Calls.mono (NU.out _ _) ?_
  rintro e W3 ⟨rfl, rfl⟩
  go_wp2_with fail
  (try simp only [Exit.inBlock, Exit.then])
  refine bodyPost_ret (results_tmp4 rfl _ _ _) rfl ?_
  have s0 := HB.out.size
  have s1 := HB1.out.size
  refine ⟨D, S, R, T, rfl, HD.out.below HB2.out, HR.out, (HB.out.trans (HB1.out.mono s0)).trans (HB2.out.mono (Nat.le_trans s0 s1)), fun k hk => Nat.le_trans s0 (HS.out k hk), fun k hk => Nat.le_trans s0 (Nat.le_trans s1 (HT.out k hk)), fun k hk ht => ?_⟩
  have := HD.out.lt k hk
  have := HT.out k ht
  omega
set_option maxHeartbeats 4000000 in
set_option maxRecDepth 100000 in
set_option linter.unusedSimpArgs false in
set_option linter.unusedVariables false in
theorem Order_nil (w : World) (ba : Option Addr) (n cap : Nat) : Calls Try.prog 20 #[.pointer none, .slice ba n cap] w fun e w' => e = .returned (.tuple #[.slice none 0 0, .int .i64 2]) ∧ Below w.heap.size w w' := by
  have CH := hide fun w v => check_nil w v
  go_enter Try.func20, Try.ntmps20
  go_wp2_with fail
  refine Calls.mono (CH.out _ _) ?_
  rintro e W1 ⟨rfl, rfl⟩
  go_wp2_with fail
  go_ret2
  exact ⟨rfl, (Below.refl _ w).alloc (Nat.le_refl _) _⟩
set_option maxHeartbeats 4000000 in
set_option maxRecDepth 100000 in
set_option linter.unusedSimpArgs false in
set_option linter.unusedVariables false in
theorem news_any (w : World) (a b c : Int) :
    Calls Try.prog 5 #[.agg #[.int .i64 a, .int .i64 b, .int .i64 c]] w fun e w' => e = .returned (.bool true) ∧ Below w.heap.size w w' := by
  have MA : ∀ W, Calls Try.prog 17 #[.agg #[.int .i64 a, .int .i64 b, .int .i64 c]] W fun e w' => ∃ p q x, e = .returned (.tuple #[.pointer p, .pointer q, .bool true, .bool x]) ∧ Below W.heap.size W w' := fun W => by
    by_cases h : okN a b c
    · refine Calls.mono (made_any W a b c h) ?_
      rintro e W1 ⟨D, S, R, T, rfl, _, _, h3, _⟩
      exact ⟨_, _, _, rfl, h3⟩
    · refine Calls.mono (made_no W a b c h) ?_
      rintro e W1 ⟨rfl, h3⟩
      exact ⟨_, _, _, rfl, h3⟩
  have MA := hide MA
  have SI := hide fun w k => Silent_nil w k
  have OR := hide fun w ba n cap => Order_nil w ba n cap
  have GO := hide fun w k => Good_nil w k
  have BA := hide fun w k => Bad_nil w k
  have TI := hide fun w => Tick_nil w
  have NU := hide fun w n => num_any w n
  obtain ⟨W0, hW0⟩ : ∃ W0, W0 = w.alloc (.cells #[.int .i64 a, .int .i64 b, .int .i64 c] 23) := ⟨_, rfl⟩
  obtain ⟨U, hU⟩ : ∃ U, U = w.heap.size := ⟨_, rfl⟩
  have hb : Below w.heap.size w W0 := by rw [hW0]; exact (Below.refl _ _).alloc (Nat.le_refl _) _
  have su : SuB W0 U a b c := by rw [hW0, hU]; exact heap_last _ _
  obtain ⟨c0, c1, c2⟩ := su.cs
  have HB := hide hb
  have SU := hide su
  clear hb su
  go_enter Try.func5, Try.ntmps5
  go_wp2_with fail
  rw [← hW0, ← hU]
  clear hW0 hU
  go_wp2_with fail
  refine Calls.mono (MA.out _) ?_
  rintro e W1 ⟨p, q, x, rfl, hB1⟩
  replace SU := hide (SU.out.kp (Kp.of_below hB1 non) (fun f => f))
  replace HB := hide (HB.out.trans (hB1.mono HB.out.size))
  clear c0 c1 c2 hB1
  obtain ⟨c0, c1, c2⟩ := SU.out.cs
  go_wp2_with fail
  refine Calls.mono (SI.out _ _) ?_
  rintro e W2 ⟨rfl, hB1⟩
  replace SU := hide (SU.out.kp (Kp.of_below hB1 non) (fun f => f))
  replace HB := hide (HB.out.trans (hB1.mono HB.out.size))
  clear c0 c1 c2 hB1
  obtain ⟨c0, c1, c2⟩ := SU.out.cs
  go_wp2_with fail
  refine Calls.mono (OR.out _ _ _ _) ?_
  rintro e W3 ⟨rfl, hB1⟩
  replace SU := hide ((SU.out.kp ((Kp.refl _ non).alloc _) (fun f => f)).kp (Kp.of_below hB1 non) (fun f => f))
  replace HB := hide ((HB.out.alloc HB.out.size _).trans (hB1.mono (HB.out.alloc HB.out.size _).size))
  clear c0 c1 c2 hB1
  obtain ⟨c0, c1, c2⟩ := SU.out.cs
  go_wp2_with fail
  refine Calls.mono (OR.out _ _ _ _) ?_
  rintro e W4 ⟨rfl, hB1⟩
  replace SU := hide (SU.out.kp (Kp.of_below hB1 non) (fun f => f))
  replace HB := hide (HB.out.trans (hB1.mono HB.out.size))
  clear c0 c1 c2 hB1
  obtain ⟨c0, c1, c2⟩ := SU.out.cs
  go_wp2_with fail
  refine Calls.mono (NU.out _ _) ?_
  rintro e W5 ⟨rfl, rfl⟩
  go_wp2_with fail
  refine Calls.mono (NU.out _ _) ?_
  rintro e W5 ⟨rfl, rfl⟩
  go_wp2_with fail
  refine Calls.mono (NU.out _ _) ?_
  rintro e W5 ⟨rfl, rfl⟩
  go_wp2_with fail
  refine Calls.mono (GO.out _ _) ?_
  rintro e W5 ⟨rfl, hB1⟩
  replace SU := hide (SU.out.kp (Kp.of_below hB1 non) (fun f => f))
  replace HB := hide (HB.out.trans (hB1.mono HB.out.size))
  clear c0 c1 c2 hB1
  obtain ⟨c0, c1, c2⟩ := SU.out.cs
  go_wp2_with fail
  refine Calls.mono (NU.out _ _) ?_
  rintro e W6 ⟨rfl, rfl⟩
  go_wp2_with fail
  refine Calls.mono (BA.out _ _) ?_
  rintro e W6 ⟨rfl, hB1⟩
  replace HB := hide (HB.out.trans (hB1.mono HB.out.size))
  clear c0 c1 c2 hB1
  go_wp2_with fail
  refine Calls.mono (NU.out _ _) ?_
  rintro e W7 ⟨rfl, rfl⟩
  go_wp2_with fail
  refine Calls.mono (TI.out _) ?_
  rintro e W7 ⟨rfl, rfl⟩
  go_wp2_with fail
  refine Calls.mono (NU.out _ _) ?_
  rintro e W7 ⟨rfl, rfl⟩
  go_wp2_with fail
  go_ret
  exact ⟨rfl, HB.out⟩
end Go.Proofs.Ytnegdhnmgkpkjaa
