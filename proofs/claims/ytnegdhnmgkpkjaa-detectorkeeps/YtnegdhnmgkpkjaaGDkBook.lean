import Derived.Test.YtnegdhnmgkpkjaaGDdPlay
namespace Go.Proofs.Ytnegdhnmgkpkjaa
open Go.RowKit
/-- an answer that is held: where it lies, what it says, what the document says -/
structure En where
  la : Option Addr
  xs : List Int
  wv : Value
def Lzi (w : World) (la : Option Addr) (xs : List Int) : Prop := (la = none ∧ xs = []) ∨ ∃ g, la = some ⟨g, 0, none⟩ ∧ Rw w g xs
def kcA (j : Nat) (e : En) : List Value := [.slice e.la e.xs.length e.xs.length, e.wv, .int .i64 (1000 + (j : Int))]
def kcs (n : Nat) (en : Nat → En) : List Value := (List.range n).flatMap fun j : Nat => kcA j (en j)
theorem kcs_succ (n : Nat) (en : Nat → En) : kcs (n + 1) en = kcs n en ++ kcA n (en n) := by
  unfold kcs
  rw [List.range_succ, List.flatMap_append]
  simp
theorem kcs_congr {n : Nat} {en en' : Nat → En} (h : ∀ j, j < n → en j = en' j) : kcs n en = kcs n en' := by
  induction n with
  | zero => rfl
  | succ n ih => rw [kcs_succ, kcs_succ, ih (fun j hj => h j (by omega)), h n (by omega)]
theorem kcs_len (n : Nat) (en : Nat → En) : (kcs n en).length = n * 3 := by
  induction n with
  | zero => rfl
  | succ n ih => rw [kcs_succ, List.length_append, ih]; simp [kcA]; omega
theorem kcs_at {n : Nat} (en : Nat → En) {j : Nat} (hj : j < n) {c : Nat} (hc : c < 3) : (kcs n en)[j * 3 + c]? = (kcA j (en j))[c]? := by
  induction n with
  | zero => omega
  | succ n ih =>
    rw [kcs_succ]
    by_cases e : j = n
    · subst e
      rw [List.getElem?_append_right (by rw [kcs_len]; omega), kcs_len]
      congr 1
      omega
    · rw [List.getElem?_append_left (by rw [kcs_len]; omega)]
      exact ih (by omega)
structure Bk (w : World) (vh : Value) (n : Nat) (en : Nat → En) : Prop where
  row : w.ownsRow 0 75 3 vh n (kcs n en)
  lz : ∀ j, j < n → Lzi w (en j).la (en j).xs
  wt : ∀ j, j < n → w.ownsRow 0 3 1 (en j).wv (en j).xs.length (ints (en j).xs)
  d1 : ∀ i j, i < n → j < n → i ≠ j → ∀ g, (en i).la = some ⟨g, 0, none⟩ → (en j).la ≠ some ⟨g, 0, none⟩
  sm : ∀ j, j < n → (en j).xs.length ≤ 300
def BkS (vh : Value) (n : Nat) (en : Nat → En) (k : Nat) : Prop := vh.ownBlock = some k ∨ ∃ j, j < n ∧ ((en j).la = some ⟨k, 0, none⟩ ∨ (en j).wv.ownBlock = some k)
theorem Lzi.kp {w w' : World} {la : Option Addr} {xs : List Int} {X : Nat → Prop} (h : Lzi w la xs) (hk : Kp w w' X) (hX : ∀ g, la = some ⟨g, 0, none⟩ → ¬ X g) : Lzi w' la xs := by
  rcases h with h | ⟨g, e, hr⟩
  · exact Or.inl h
  · exact Or.inr ⟨g, e, hr.kp hk (hX g e)⟩
theorem Lzi.is {w : World} {la : Option Addr} {xs : List Int} (h : Lzi w la xs) (hl : xs.length ≤ 1000000) : ∃ b, IsAt w la b 0 xs := by
  rcases h with ⟨rfl, rfl⟩ | ⟨g, rfl, hr⟩
  · exact ⟨0, fun q => absurd q (by simp), fun i hi => absurd hi (by simp), Nat.zero_le _⟩
  · exact ⟨g, hr.is hl⟩
section
variable {w w' : World} {vh : Value} {n : Nat} {en : Nat → En} {X : Nat → Prop}
theorem Bk.kp (h : Bk w vh n en) (hk : Kp w w' X) (hX : ∀ k, BkS vh n en k → ¬ X k) : Bk w' vh n en :=
  ⟨own_kp h.row hk (fun k e => hX k (Or.inl e)), fun j hj => (h.lz j hj).kp hk (fun g e => hX g (Or.inr ⟨j, hj, Or.inl e⟩)), fun j hj => own_kp (h.wt j hj) hk (fun k e => hX k (Or.inr ⟨j, hj, Or.inr e⟩)), h.d1, h.sm⟩
theorem Bk.lt (h : Bk w vh n en) {k : Nat} (hk : BkS vh n en k) : k < w.heap.size := by
  rcases hk with e | ⟨j, hj, e | e⟩
  · exact own_lt h.row e
  · rcases h.lz j hj with ⟨q, _⟩ | ⟨g, q, hr⟩
    · rw [q] at e; cases e
    · rw [q] at e
      injection e with e
      injection e with e
      subst e
      exact blk_lt hr
  · exact own_lt (h.wt j hj) e
theorem Bk.nil (w : World) (en : Nat → En) : Bk w (.slice none 0 0) 0 en := ⟨World.ownsRow_nil _ _ _ _, fun j hj => by omega, fun j hj => by omega, fun i j hi => by omega, fun j hj => by omega⟩
end
theorem kp_infos : (Try.prog.info? 75).map (fun i => (i.zero, i.size, i.bytes)) = some (some (.agg #[.slice none 0 0, .slice none 0 0, .int .i64 0]), 3, 56) := by kernel_rfl
/-- append(held, Kept{..}) -/
theorem wpList_apK {w : World} {ops : Array Oper} {rest : List Oper} {o : Oper} {a : Act} {Q : Exit → Act → World → Prop} (hgd : o.guard = none) (x y : Operand) (ho : o.op = .call { callee := .builtin .append, args := #[x, y], argTypes := #[53, 53] }) (v : Value) (n : Nat) (L : List Value) (hx : a.eval x = v) (hv : w.ownsRow 0 75 3 v n L) (g : Nat) (A : List Value) (hA : A.length = 3) (hA1 : ∀ u ∈ A, u.oneCell' = true) (hy : a.eval y = .slice (some ⟨g, 0, none⟩) 1 1) (hg : w.heap[g]? = some (.cells A.toArray 75)) (hl : n ≤ 1000000)
    (h : ∀ v' w', w'.ownsRow 0 75 3 v' (n + 1) (L ++ A) → w.grownBy w' v.ownBlock → (v'.ownBlock = v.ownBlock ∨ v'.ownBlock = some w.heap.size) → wpList Try.prog ops Q rest (a.put o.dst v') w') : wpList Try.prog ops Q (o :: rest) a w := by
  obtain ⟨i0, hi, hz0, hz1, hz2⟩ := info_parts kp_infos
  refine wpList_append_own_at _ hgd _ _ 53 ho 0 75 i0 _ 3 56 Try.underlying53 hi hz0 hz1 hz2 rfl (by decide) _ _ _ hx hv ⟨g, 0, none⟩ 1 1 A hy (by rw [hA]) ?_ hA1 (by unfold maxLen; omega) (by omega) (Nat.zero_le _) ?_
  · intro j u hj
    rw [Addr.add_mid, Nat.zero_add, cell_row hg]
    simpa using hj
  · intro v' w' h1 h2 _ h4
    exact h v' w' h1 h2 h4
/-- one more -/
theorem Bk.push {w wa w4 : World} {vh : Value} {n : Nat} {en : Nat → En} (h : Bk w vh n en) {e : En} (hb : Below w.heap.size w wa) (hz : Lzi wa e.la e.xs) (hw : wa.ownsRow 0 3 1 e.wv e.xs.length (ints e.xs)) (hnl : ∀ g, e.la = some ⟨g, 0, none⟩ → w.heap.size ≤ g) (hnw : ∀ k, e.wv.ownBlock = some k → w.heap.size ≤ k) (hsm : e.xs.length ≤ 300) {vh' : Value} (o4 : w4.ownsRow 0 75 3 vh' (n + 1) (kcs n en ++ kcA n e)) (g4 : wa.grownBy w4 vh.ownBlock) (at4 : vh'.ownBlock = vh.ownBlock ∨ vh'.ownBlock = some wa.heap.size) :
    Bk w4 vh' (n + 1) (updN en n e) ∧ (∀ k, BkS vh' (n + 1) (updN en n e) k → BkS vh n en k ∨ w.heap.size ≤ k) ∧ Kp w w4 (fun k => vh.ownBlock = some k) := by
  have kG : Kp wa w4 (fun k => vh.ownBlock = some k) := (Kp.of_grown g4).mono (fun k e => e.symm)
  have kW : Kp w w4 (fun k => vh.ownBlock = some k) := (Kp.of_below hb _).trans kG (fun _ e => Or.inl e)
  have tyI : ∀ {b : Nat}, vh.ownBlock = some b → ∃ c, wa.heap[b]? = some (.cells c 75 (0, 0)) := fun e => by
    obtain ⟨c, hc⟩ := own_typ h.row e
    exact ⟨c, (hb.block _ (blk_lt hc)).trans hc⟩
  have neL : ∀ {g : Nat} {xs : List Int}, Rw wa g xs → ¬ vh.ownBlock = some g := fun hr e => by
    obtain ⟨c, hc⟩ := tyI e
    have := (show wa.heap[_]? = _ from hr).symm.trans hc
    simp at this
  have neW : ∀ {v : Value} {m : Nat} {xs : List Value} {k : Nat}, wa.ownsRow 0 3 1 v m xs → v.ownBlock = some k → ¬ vh.ownBlock = some k := fun ho hk e => by
    obtain ⟨c, hc⟩ := tyI e
    obtain ⟨c2, hc2⟩ := own_typ ho hk
    have := hc2.symm.trans hc
    simp at this
  have ha : Bk wa vh n en := h.kp (Kp.of_below hb non) (fun _ _ f => f)
  refine ⟨⟨?_, fun j hj => ?_, fun j hj => ?_, fun i j hi hj hij g hg => ?_, fun j hj => ?_⟩, fun k hk => ?_, kW⟩
  · rw [kcs_succ, updN_same, kcs_congr (en' := en) (fun j hj => updN_other (by omega))]
    exact o4
  · by_cases q : j = n
    · subst q
      rw [updN_same]
      refine hz.kp kG (fun g e => ?_)
      rcases hz with ⟨r, _⟩ | ⟨g', r, hr⟩
      · rw [r] at e; cases e
      · rw [r] at e
        injection e with e
        injection e with e
        subst e
        exact neL hr
    · rw [updN_other q]
      refine (ha.lz j (by omega)).kp kG (fun g e => ?_)
      rcases ha.lz j (by omega) with ⟨r, _⟩ | ⟨g', r, hr⟩
      · rw [r] at e; cases e
      · rw [r] at e
        injection e with e
        injection e with e
        subst e
        exact neL hr
  · by_cases q : j = n
    · subst q
      rw [updN_same]
      exact own_kp hw kG (fun k e => neW hw e)
    · rw [updN_other q]
      exact own_kp (ha.wt j (by omega)) kG (fun k e => neW (ha.wt j (by omega)) e)
  · by_cases qi : i = n
    · subst qi
      rw [updN_same] at hg
      rw [updN_other (by omega)]
      intro e2
      have := hnl g hg
      have := h.lt (k := g) (Or.inr ⟨j, by omega, Or.inl e2⟩)
      omega
    · rw [updN_other qi] at hg
      by_cases qj : j = n
      · subst qj
        rw [updN_same]
        intro e2
        have := hnl g e2
        have := h.lt (k := g) (Or.inr ⟨i, by omega, Or.inl hg⟩)
        omega
      · rw [updN_other qj]
        exact h.d1 i j (by omega) (by omega) hij g hg
  · by_cases q : j = n
    · subst q; rw [updN_same]; exact hsm
    · rw [updN_other q]; exact h.sm j (by omega)
  · rcases hk with e | ⟨j, hj, e⟩
    · rcases at4 with r | r
      · rw [r] at e; exact Or.inl (Or.inl e)
      · rw [r] at e; cases e; exact Or.inr hb.size
    · by_cases q : j = n
      · subst q
        rw [updN_same] at e
        rcases e with e | e
        · exact Or.inr (hnl k e)
        · exact Or.inr (hnw k e)
      · rw [updN_other q] at e
        exact Or.inl (Or.inr ⟨j, by omega, e⟩)
set_option maxHeartbeats 16000000 in
set_option maxRecDepth 100000 in
set_option linter.unusedSimpArgs false in
set_option linter.unusedVariables false in
theorem keep_any {w : World} {S T : Nat → Prop} {D R : Nat} {d : Dt} (h : Two w S T D R d) {q0 : Nat} (hf : d.upto q0) (he : d.enb) (hq : q0 ≤ 1000000) (ao : Option Addr) (b o cap : Nat) (gs : List Int) (hs : IsAt w ao b o gs) (hl : gs.length ≤ 200) (vh : Value) (n : Nat) (en : Nat → En) (hb : Bk w vh n en) (hn : n ≤ 1000) :
    Calls Try.prog 25 #[.pointer (some ⟨D, 0, none⟩), .pointer (some ⟨R, 0, none⟩), .slice ao gs.length cap, vh] w fun e w' => ∃ vh' en', e = .returned vh' ∧ Bk w' vh' (n + 1) en' ∧ (∀ k, BkS vh' (n + 1) en' k → BkS vh n en k ∨ w.heap.size ≤ k) ∧ Kp w w' (fun k => vh.ownBlock = some k) := by
  have tkg : tk gs = gs := List.take_of_length_le hl
  have HBk := hide hb
  -- the program's answer, in either case
  have ORD : Calls Try.prog 20 #[.pointer (some ⟨D, 0, none⟩), .slice ao gs.length cap] w fun e w' => ∃ la xs z, e = .returned (.tuple #[.slice la (List.length xs) (List.length xs), .int .i64 z]) ∧ Lzi w' la xs ∧ (∀ g, la = some ⟨g, 0, none⟩ → w.heap.size ≤ g) ∧ xs = (if ∀ x ∈ gs, 0 ≤ x ∧ x < (d.n : Int) then ordL d gs else []) ∧ xs.length ≤ 300 ∧ Below w.heap.size w w' := by
    by_cases hin : ∀ x ∈ gs, 0 ≤ x ∧ x < (d.n : Int)
    · refine Calls.mono (Order_any h.dt hf.ft he ao b o cap gs hs hin (by omega)) ?_
      rintro e w' ⟨g, rfl, h1, h2, h3, h4⟩
      refine ⟨some ⟨g, 0, none⟩, ordL d gs, 0, by rw [h2], Or.inr ⟨g, rfl, h1⟩, fun g' e => ?_, by rw [if_pos hin], by omega, h4⟩
      injection e with e
      injection e with e
      omega
    · refine Calls.mono (Order_bad h.dt hf.ft ao b o cap gs hs hin) ?_
      rintro e w' ⟨rfl, h4⟩
      exact ⟨none, [], 68, rfl, Or.inl ⟨rfl, rfl⟩, (fun g e => by cases e), by rw [if_neg hin], by simp, h4⟩
  have RORD : ∀ (W : World) (ao' : Option Addr) (b' cap' : Nat), Below w.heap.size w W → IsAt W ao' b' 0 gs → Calls Try.prog 43 #[.pointer (some ⟨R, 0, none⟩), .slice ao' gs.length cap'] W fun e w' => ∃ v z, e = .returned (.tuple #[v, .int .i64 z]) ∧ w'.ownsRow W.heap.size 3 1 v (if ∀ x ∈ gs, 0 ≤ x ∧ x < (d.n : Int) then ordL d gs else []).length (ints (if ∀ x ∈ gs, 0 ≤ x ∧ x < (d.n : Int) then ordL d gs else [])) ∧ Below W.heap.size W w' := fun W ao' b' cap' hW hI => by
    by_cases hin : ∀ x ∈ gs, 0 ≤ x ∧ x < (d.n : Int)
    · refine Calls.mono (rOrder_any (h.rf.below hW) hf hq ao' b' 0 cap' gs hI hin (by omega)) ?_
      rintro e w' ⟨v, rfl, h1, h2⟩
      rw [if_pos hin]
      exact ⟨v, 0, rfl, h1, h2⟩
    · refine Calls.mono (rOrder_bad (h.rf.below hW) ao' b' 0 cap' gs hI hin) ?_
      rintro e w' ⟨rfl, h2⟩
      rw [if_neg hin]
      exact ⟨_, 68, rfl, World.ownsRow_nil _ _ _ _, h2⟩
  generalize hX : (if ∀ x ∈ gs, 0 ≤ x ∧ x < (d.n : Int) then ordL d gs else []) = X at *
  have HOR := hide ORD
  have HRO := hide RORD
  have CP := fun (W : World) (h : IsAt W ao b o gs) => copied_any (w := W) ao b o cap gs h
  simp only [tkg] at CP
  have HCP := hide CP
  have HIs := hide hs
  clear h hf he hs hb ORD RORD CP tkg hX
  obtain ⟨bh, ch, rfl⟩ := own_sl HBk.out.row
  go_enter Try.func25, Try.ntmps25
  go_wp2_with fail
  refine Calls.mono HOR.out ?_
  rintro z X1 ⟨la, xs, ze, rfl, hz1, hn1, hxs, hs1, hb1⟩
  obtain rfl : X = xs := hxs.symm
  clear hxs
  have HZ1 := hide hz1
  have HN1 := hide hn1
  have HB1 := hide hb1
  have HI1 := hide (HIs.out.kp (Kp.of_below hb1 non) (fun _ f => f))
  have CP1 := hide (HCP.out _ HI1.out)
  clear hz1 hn1 hb1 HOR HCP
  go_wp2_with fail
  refine Calls.mono CP1.out ?_
  rintro z X2 ⟨v2, rfl, ho2, hb2⟩
  obtain ⟨f1, ao2, b2, cap2, rfl, hI2, f2⟩ := own_is ho2 (by omega)
  have HB2 := hide (HB1.out.trans (hb2.mono HB1.out.size))
  have HZ2 := hide (HZ1.out.kp (Kp.of_below hb2 non) (fun _ _ f => f))
  have RO := hide (HRO.out X2 ao2 b2 cap2 HB2.out hI2)
  clear f1 f2 ho2 hb2 hI2 CP1 HZ1
  go_wp2_with fail
  refine Calls.mono RO.out ?_
  rintro z X3 ⟨v3, ze3, rfl, ho3, hb3⟩
  have HB3 := hide (HB2.out.trans (hb3.mono HB2.out.size))
  have HZ3 := hide (HZ2.out.kp (Kp.of_below hb3 non) (fun _ _ f => f))
  have hw3 := ho3
  obtain ⟨ba3, cp3, rfl⟩ := own_sl hw3
  have HO3 := hide (own_base ho3 (Nat.zero_le _))
  have HN3 : Hid (∀ k, (Value.slice ba3 X.length cp3).ownBlock = some k → w.heap.size ≤ k) := fun k e => Nat.le_trans HB2.out.size (own_ge ho3 e)
  clear ho3 hw3 hb3 RO HZ2
  have ez : (1000 : Int) + (n : Int) = 1000 + (n : Int) := rfl
  obtain ⟨X4, hX4⟩ : ∃ X4, X4 = X3.alloc (.cells #[.slice la X.length X.length, .slice ba3 X.length cp3, .int .i64 (1000 + (n : Int))] 75) := ⟨_, rfl⟩
  have hb4 : Below X3.heap.size X3 X4 := by rw [hX4]; exact (Below.refl _ _).alloc (Nat.le_refl _) _
  have gg : X4.heap[X3.heap.size]? = some (.cells (kcA n ⟨la, X, .slice ba3 X.length cp3⟩).toArray 75) := by rw [hX4]; exact heap_last _ _
  have HGG := hide gg
  have HB4 := hide (HB3.out.trans (hb4.mono HB3.out.size))
  have HBk4 := hide (HBk.out.kp (Kp.of_below HB4.out non) (fun _ _ f => f)).row
  have HFIN : Hid (∀ (w4 : World) (vh' : Value), w4.ownsRow 0 75 3 vh' (n + 1) (kcs n en ++ kcA n ⟨la, X, .slice ba3 X.length cp3⟩) → X4.grownBy w4 (Value.slice bh n ch).ownBlock → (vh'.ownBlock = (Value.slice bh n ch).ownBlock ∨ vh'.ownBlock = some X4.heap.size) → Bk w4 vh' (n + 1) (updN en n ⟨la, X, .slice ba3 X.length cp3⟩) ∧ (∀ k, BkS vh' (n + 1) (updN en n ⟨la, X, .slice ba3 X.length cp3⟩) k → BkS (.slice bh n ch) n en k ∨ w.heap.size ≤ k) ∧ Kp w w4 (fun k => (Value.slice bh n ch).ownBlock = some k)) := fun w4 vh' o4 g4 at4 =>
    HBk.out.push (e := ⟨la, X, .slice ba3 X.length cp3⟩) HB4.out (HZ3.out.kp (Kp.of_below hb4 non) (fun _ _ f => f)) (own_kp HO3.out (Kp.of_below hb4 non) (fun _ _ f => f)) HN1.out HN3.out hs1 o4 g4 at4
  clear gg hb4
  go_wp2_with (at_builtin; rw [← hX4]; refine wpList_apK rfl (.tmp 26) (.tmp 33) rfl _ n (kcs n en) rfl HBk4.out X3.heap.size (kcA n ⟨la, X, .slice ba3 X.length cp3⟩) rfl (by simp [kcA, Value.oneCell']) rfl HGG.out (by omega) ?_; intro v' X5 o5 g5 at5; have HF5 := hide (HFIN.out X5 v' o5 g5 at5); clear o5 g5 at5)
  go_ret
  exact ⟨_, _, rfl, HF5.out⟩
end Go.Proofs.Ytnegdhnmgkpkjaa
namespace Go.Proofs.Ytnegdhnmgkpkjaa
open Go.RowKit
set_option maxHeartbeats 8000000 in
set_option maxRecDepth 100000 in
set_option linter.unusedSimpArgs false in
set_option linter.unusedVariables false in
theorem same_q {w : World} (ao : Option Addr) (b o cap : Nat) (xs : List Int) (hx : IsAt w ao b o xs) (ao' : Option Addr) (b' o' cap' : Nat) (ys : List Int) (hy : IsAt w ao' b' o' ys) :
    Calls Try.prog 22 #[.slice ao xs.length cap, .slice ao' ys.length cap'] w fun e w' => e = .returned (.bool (decide (xs = ys))) ∧ ∃ q, w' = w.drewN q := by
  have HX := hide hx
  have HY := hide hy
  have l1 := hx.len
  have l2 := hy.len
  clear hx hy
  obtain ⟨bv, hbv⟩ : ∃ bv, bv = decide (xs = ys) := ⟨_, rfl⟩
  rw [← hbv]
  have HBV := hide hbv
  clear hbv
  by_cases hl : xs.length = ys.length
  · have HL := hide hl
    obtain ⟨N, hN⟩ : ∃ N, N = xs.length := ⟨_, rfl⟩
    rw [← hN] at l1
    rw [← hl, ← hN]
    have HN := hide hN
    clear hl hN l2
    go_enter Try.func22, Try.ntmps22
    go_wp2_with fail
    go_loopw [5] (fun vi wr => ∃ (i q : Nat), wr = w.drewN q ∧ i ≤ N ∧ vi = .int .i64 (i : Int) ∧ Hid (xs.take i = ys.take i)) (fun vi _ => N - (intOf vi).toNat)
    case atStart => exact ⟨0, 0, rfl, Nat.zero_le _, rfl, rfl⟩
    case round =>
      obtain ⟨i, q, hw, hi, rfl, HP⟩ := hrel
      have HWr := hide hw
      by_cases h1 : i < N
      · have q1 : (i : Int) < (N : Int) := by omega
        have z1 : i < xs.length := by rw [← HN.out]; exact h1
        have z2 : i < ys.length := by rw [← HL.out]; exact z1
        have c1 : wr.cell? ⟨b, o + i, none⟩ = some (.int .i64 xs[i]) := by rw [hw]; exact HX.out.cell i z1
        have c2 : wr.cell? ⟨b', o' + i, none⟩ = some (.int .i64 ys[i]) := by rw [hw]; exact HY.out.cell i z2
        obtain rfl := HX.out.at0 (by omega)
        obtain rfl := HY.out.at0 (by omega)
        have HE : Hid (xs[i] = ys[i] → xs.take (i + 1) = ys.take (i + 1)) := eq_prefix HP.out z1 z2
        have HNe : Hid (xs[i] ≠ ys[i] → decide (xs = ys) = false) := fun k => decide_eq_false (fun e => k (by subst e; rfl))
        generalize xs[i] = x at *
        generalize ys[i] = y at *
        clear hw z1 z2
        by_cases hxy : x = y
        · subst hxy
          have HF := hide (HE.out rfl)
          go_wp2_with fail
          go_quiet (fail)
          have HW2 : Hid (wr.drewN nq = w.drewN (q + nq)) := by show _ = _; rw [HWr.out, World.drewN_drewN]
          clear c1 c2 HE HNe HWr
          generalize wr.drewN nq = wq at *
          go_wp2_with fail
          go_roundw
          case rel => exact ⟨i + 1, q + nq, HW2.out, by omega, by go_num, HF⟩
          case measure => simp [intOf]; omega
        · have q2 : (x == y) = false := by simpa using hxy
          have q3 : (x != y) = true := by simpa using hxy
          obtain rfl : bv = false := HBV.out.trans (HNe.out hxy)
          go_wp2_with fail
          go_quiet (fail)
          have HW2 : Hid (wr.drewN nq = w.drewN (q + nq)) := by show _ = _; rw [HWr.out, World.drewN_drewN]
          clear c1 c2 HE HNe HWr
          generalize wr.drewN nq = wq at *
          go_wp2_with fail
          go_ret
          exact ⟨rfl, _, HW2.out⟩
      · have q1 : ¬ (i : Int) < (N : Int) := by omega
        have HF : decide (xs = ys) = true := decide_eq_true (by
          have := HP.out
          rwa [List.take_of_length_le (by rw [← HN.out]; omega), List.take_of_length_le (by rw [← HL.out, ← HN.out]; omega)] at this)
        obtain rfl : bv = true := HBV.out.trans HF
        clear HF hw
        go_wp2_with fail
        go_ret
        exact ⟨rfl, _, HWr.out⟩
  · have HF : decide (xs = ys) = false := decide_eq_false (fun e => hl (by rw [e]))
    obtain rfl : bv = false := HBV.out.trans HF
    have q1 : ((xs.length : Int) == (ys.length : Int)) = false := by simp; omega
    have q2 : ((xs.length : Int) != (ys.length : Int)) = true := by simp; omega
    clear HF hl
    go_enter Try.func22, Try.ntmps22
    go_wp2_with fail
    go_ret
    exact ⟨rfl, 0, rfl⟩
theorem Bk.cells {w : World} {vh : Value} {n : Nat} {en : Nat → En} (h : Bk w vh n en) {j : Nat} (hj : j < n) : ∃ g cap, vh = .slice (some ⟨g, 0, none⟩) n cap ∧ w.cell? ⟨g, j * 3, none⟩ = some (.slice (en j).la (en j).xs.length (en j).xs.length) ∧ w.cell? ⟨g, j * 3 + 1, none⟩ = some (en j).wv ∧ w.cell? ⟨g, j * 3 + 2, none⟩ = some (.int .i64 (1000 + (j : Int))) := by
  obtain ⟨g, cap, e, c0, _⟩ := own_at h.row (kcs_at en hj (c := 0) (by omega) : _ = some _)
  obtain ⟨g1, cap1, e1, c1, _⟩ := own_at h.row (kcs_at en hj (c := 1) (by omega) : _ = some _)
  obtain ⟨g2, cap2, e2, c2, _⟩ := own_at h.row (kcs_at en hj (c := 2) (by omega) : _ = some _)
  have q1 : g1 = g := by rw [e] at e1; injection e1 with a; injection a with a; injection a with a; exact a.symm
  have q2 : g2 = g := by rw [e] at e2; injection e2 with a; injection a with a; injection a with a; exact a.symm
  subst q1 q2
  exact ⟨_, cap, e, c0, c1, c2⟩
set_option maxHeartbeats 8000000 in
set_option maxRecDepth 100000 in
set_option linter.unusedSimpArgs false in
set_option linter.unusedVariables false in
theorem left_any {w : World} {vh : Value} {n : Nat} {en : Nat → En} (h : Bk w vh n en) (hn : n ≤ 1000) :
    Calls Try.prog 26 #[vh] w fun e w' => e = .returned (.bool true) ∧ Below w.heap.size w w' := by
  have H := hide h
  obtain ⟨bh, ch, rfl⟩ := own_sl h.row
  clear h
  go_enter Try.func26, Try.ntmps26
  go_wp2_with fail
  go_loopw [3] (fun vi wr => ∃ (i : Nat), i ≤ n ∧ vi = .int .i64 (i : Int) ∧ Hid (Kp w wr non)) (fun vi _ => n - (intOf vi).toNat)
  case atStart => exact ⟨0, Nat.zero_le _, rfl, Kp.refl _ _⟩
  case round =>
    obtain ⟨i, hi, rfl, HK⟩ := hrel
    by_cases h1 : i < n
    · have r1 : (i : Int) < (n : Int) := by omega
      have hb := H.out.kp HK.out (fun _ _ f => f)
      obtain ⟨g, cap, e, c0, c1, c2⟩ := hb.cells h1
      obtain ⟨bx, hx⟩ := (hb.lz i h1).is (by have := hb.sm i h1; omega)
      obtain ⟨f1, aw, bw, cw, ew, hw, f2⟩ := own_is (hb.wt i h1) (by have := hb.sm i h1; omega)
      injection e with e1 e2 e3
      subst e1 e3
      have SQ : ∀ k, Calls Try.prog 22 #[.slice (en i).la (en i).xs.length (en i).xs.length, .slice aw (en i).xs.length cw] (wr.drewN k) fun e w' => e = .returned (.bool true) ∧ ∃ q, w' = (wr.drewN k).drewN q := fun k => by
        have kk := (Kp.refl wr non).drewN k
        have := same_q (w := wr.drewN k) _ bx 0 (en i).xs.length (en i).xs (hx.kp kk (fun _ f => f)) aw bw 0 cw (en i).xs (hw.kp kk (fun _ f => f))
        rwa [decide_eq_true rfl] at this
      rw [ew] at c1
      generalize (en i).xs.length = m at *
      generalize (en i).la = la at *
      have HSQ := hide SQ
      clear hb hx hw f1 f2 ew SQ
      go_wp2_with fail
      go_quiet (first | (go_at_call 22; refine Calls.quiet_of (HSQ.out _)))
      have HKq := hide (HK.out.drewN nq)
      clear c0 c1 c2 HK HSQ
      generalize wr.drewN nq = wq at *
      go_wp2_with fail
      go_roundw
      case rel => exact ⟨i + 1, by omega, by go_num, HKq⟩
      case measure => simp [intOf]; omega
    · have r1 : ¬ (i : Int) < (n : Int) := by omega
      go_wp2_with fail
      go_ret
      exact ⟨rfl, HK.out.below⟩
end Go.Proofs.Ytnegdhnmgkpkjaa
namespace Go.Proofs.Ytnegdhnmgkpkjaa
open Go.RowKit
/-- append to a list that fills its block: a new block -/
theorem run_appF (w : World) (la : Option Addr) (xs : List Int) (h : Lzi w la xs) (g : Nat) (x : Int) (hg : w.heap[g]? = some (.cells #[.int .i64 x] 3)) (hl : xs.length ≤ 1000000) (ty : TypeId) :
    ∃ v' w', (Builtin.append_ #[38, 38] ty #[.slice la xs.length xs.length, .slice (some ⟨g, 0, none⟩) 1 1]).run Try.prog w = .ok v' w' ∧ w'.ownsRow w.heap.size 3 1 v' (xs.length + 1) (ints (xs ++ [x])) ∧ Below w.heap.size w w' := by
  obtain ⟨i0, hi, hz0, hz1, hz2⟩ := info_parts int_infos
  have hnews : ∀ j v, (ints [x])[j]? = some v → w.cell? ((⟨g, 0, none⟩ : Addr).add j) = some v := fun j v hj => by
    rw [Addr.add_mid, Nat.zero_add, cell_row hg]
    simpa [ints] using hj
  rcases h with ⟨rfl, rfl⟩ | ⟨G, rfl, hb⟩
  · obtain ⟨v', w', hr, e1, e2, _, e4⟩ := run_append_own_at (P := Try.prog) w w.heap.size 38 ty 3 i0 _ 1 8 Try.underlying38 hi hz0 hz1 hz2 rfl (by decide) (.slice none 0 0) 0 [] (World.ownsRow_nil _ _ _ _) ⟨g, 0, none⟩ 1 1 (ints [x]) rfl hnews (ints_one _) (by unfold maxLen; omega) (by omega) (Nat.le_refl _)
    exact ⟨v', w', hr, e1, ⟨e2.os, e2.tape, e2.output, e2.size, fun k hk => e2.block k hk (by simp [Value.ownBlock])⟩⟩
  · have hr := run_append_grow (P := Try.prog) w 38 ty 3 i0 _ Try.underlying38 hi hz0 ⟨G, 0, none⟩ xs.length xs.length (ints xs) (by rw [hz1, ints_len]; omega) (fun j v hv => by
      rw [Addr.add_mid, Nat.zero_add]
      have hj : j < xs.length := by
        have := (List.getElem?_eq_some_iff.1 hv).1
        rwa [ints_len] at this
      rw [hb.cell hj, ← hv, ints_at, atL_some hj]
      rfl) ⟨g, 0, none⟩ 1 1 (ints [x]) (by rw [hz1]; rfl) hnews (by omega) (by omega) (growslice_fits (by omega) (by rw [hz2]; omega))
    have g1 := grownCap_ge w (xs.length + 1) xs.length 3
    have g2 := grownCap_le_maxLen w (xs.length + 1) xs.length 3 (by unfold maxLen; omega)
    refine ⟨_, _, hr, ⟨by rw [ints_len, List.length_append]; simp, .inr ⟨w.heap.size, grownCap w (xs.length + 1) xs.length 3, _, rfl, Nat.le_refl _, heap_alloc_new w.drew _, g1, g2, ?_, ?_⟩⟩, ((Below.refl _ w).drew).alloc (Nat.le_refl _) _⟩
    · simp only [Array.size_append, List.size_toArray, size_zeroCells, ints_len]
      rw [show (Value.int .i64 0).cells.size = 1 from rfl]
      simp
      omega
    · simp only [Array.toList_append, List.append_assoc]
      rw [← List.append_assoc, ← ints_append, show (xs.length + 1) * 1 = (ints (xs ++ [x])).length by rw [ints_len, List.length_append]; simp]
      exact List.take_left
theorem wp_appF {w : World} {o : Oper} {a : Act} {K : Act → World → Prop} {Q : Exit → Act → World → Prop} (s x : Operand) (ho : o.op = .call { callee := .builtin .append, args := #[s, x], argTypes := #[38, 38] }) (la : Option Addr) (xs : List Int) (h : Lzi w la xs) (hs : a.eval s = .slice la xs.length xs.length) (g : Nat) (y : Int) (hx : a.eval x = .slice (some ⟨g, 0, none⟩) 1 1) (hg : w.heap[g]? = some (.cells #[.int .i64 y] 3)) (hl : xs.length ≤ 1000000)
    (hk : ∀ v' w', w'.ownsRow w.heap.size 3 1 v' (xs.length + 1) (ints (xs ++ [y])) → Below w.heap.size w w' → K (a.put o.dst v') w') : o.wp Try.prog a w K Q := by
  obtain ⟨v', w', hr, h2, h3⟩ := run_appF w la xs h g y hg hl o.type
  unfold Oper.wp execOp
  simp only [ho, resolve, invoke, builtin, Sem.run_bind, Sem.run_pure, Result.andThen_ok, List.map_toArray, List.map_cons, List.map_nil, hs, hx, hr]
  exact hk v' w' h2 h3
/-- the book while its lists are written over -/
structure Ap (w : World) (vh : Value) (n : Nat) (en : Nat → En) (cx : Nat → List Int) : Prop where
  row : w.ownsRow 0 75 3 vh n (kcs n en)
  lz : ∀ j, j < n → Lzi w (en j).la (cx j)
  le : ∀ j, j < n → (cx j).length = (en j).xs.length
  d1 : ∀ i j, i < n → j < n → i ≠ j → ∀ g, (en i).la = some ⟨g, 0, none⟩ → (en j).la ≠ some ⟨g, 0, none⟩
  sm : ∀ j, j < n → (en j).xs.length ≤ 300
theorem Bk.ap {w : World} {vh : Value} {n : Nat} {en : Nat → En} (h : Bk w vh n en) : Ap w vh n en (fun j => (en j).xs) := ⟨h.row, h.lz, fun _ _ => rfl, h.d1, h.sm⟩
section
variable {w w' : World} {vh : Value} {n : Nat} {en : Nat → En} {cx : Nat → List Int}
theorem Ap.kp (h : Ap w vh n en cx) {X : Nat → Prop} (hk : Kp w w' X) (hX : ∀ k, BkS vh n en k → ¬ X k) : Ap w' vh n en cx :=
  ⟨own_kp h.row hk (fun k e => hX k (Or.inl e)), fun j hj => (h.lz j hj).kp hk (fun g e => hX g (Or.inr ⟨j, hj, Or.inl e⟩)), h.le, h.d1, h.sm⟩
theorem Ap.cells (h : Ap w vh n en cx) {j : Nat} (hj : j < n) : ∃ g cap, vh = .slice (some ⟨g, 0, none⟩) n cap ∧ w.cell? ⟨g, j * 3, none⟩ = some (.slice (en j).la (en j).xs.length (en j).xs.length) ∧ w.cell? ⟨g, j * 3 + 2, none⟩ = some (.int .i64 (1000 + (j : Int))) ∧ w.heap[g]? = w.heap[g]? := by
  obtain ⟨g, cap, e, c0, _⟩ := own_at h.row (kcs_at en hj (c := 0) (by omega) : _ = some _)
  obtain ⟨g2, cap2, e2, c2, _⟩ := own_at h.row (kcs_at en hj (c := 2) (by omega) : _ = some _)
  have q2 : g2 = g := by rw [e] at e2; injection e2 with a; injection a with a; injection a with a; exact a.symm
  subst q2
  exact ⟨_, cap, e, c0, c2, rfl⟩
theorem Ap.ne (h : Ap w vh n en cx) {i g : Nat} (hi : i < n) (hg : (en i).la = some ⟨g, 0, none⟩) : ¬ vh.ownBlock = some g := fun e => by
  obtain ⟨c, hc⟩ := own_typ h.row e
  rcases h.lz i hi with ⟨q, _⟩ | ⟨g', q, hr⟩
  · rw [q] at hg; cases hg
  · rw [q] at hg
    injection hg with hg
    injection hg with hg
    subst hg
    have := (show w.heap[_]? = _ from hr).symm.trans hc
    simp at this
theorem Ap.set (h : Ap w vh n en cx) {i g : Nat} (hi : i < n) (hg : (en i).la = some ⟨g, 0, none⟩) (j : Nat) (x : Int) : Ap (w.setCell ⟨g, j, none⟩ (.int .i64 x)) vh n en (updN cx i ((cx i).set j x)) := by
  have hk : Kp w (w.setCell ⟨g, j, none⟩ (.int .i64 x)) (fun k => k = g) := (Kp.refl w (fun k => k = g)).set (Or.inl rfl) _ _
  refine ⟨own_kp h.row hk (fun k e q => h.ne hi hg (by rw [← q]; exact e)), fun k hk2 => ?_, fun k hk2 => ?_, h.d1, h.sm⟩
  · by_cases e : k = i
    · subst e
      rw [updN_same]
      rcases h.lz k hi with ⟨q, _⟩ | ⟨g', q, hr⟩
      · rw [q] at hg; cases hg
      · have : g' = g := by rw [q] at hg; injection hg with a; injection a
        subst this
        exact Or.inr ⟨g', q, hr.set j x⟩
    · rw [updN_other e]
      refine (h.lz k hk2).kp hk (fun g2 e2 q => ?_)
      subst q
      exact h.d1 k i hk2 hi e _ e2 hg
  · by_cases e : k = i
    · subst e; rw [updN_same, List.length_set]; exact h.le k hi
    · rw [updN_other e]; exact h.le k hk2
end
/-- all marks -/
def fullL (en : Nat → En) (k : Nat) : List Int := List.replicate (en k).xs.length (1000 + (k : Int))
theorem full_of {en : Nat → En} {k : Nat} {l : List Int} (hl : l.length = (en k).xs.length) (h : ∀ t, t < (en k).xs.length → atL l t = 1000 + (k : Int)) : l = fullL en k := by
  refine atL_ext (by rw [hl, fullL, List.length_replicate]) fun t ht => ?_
  rw [h t (by omega)]
  unfold fullL
  rw [atL_get (by rw [List.length_replicate]; omega), List.getElem_replicate]
/-- what a list has grown to -/
def moreL (en : Nat → En) (k q : Nat) : List Int := fullL en k ++ List.replicate q (1500 + (k : Int))
theorem moreL_len (en : Nat → En) (k q : Nat) : (moreL en k q).length = (en k).xs.length + q := by simp [moreL, fullL]
theorem moreL_succ (en : Nat → En) (k q : Nat) : moreL en k (q + 1) = moreL en k q ++ [1500 + (k : Int)] := by unfold moreL; rw [List.replicate_succ', List.append_assoc]
theorem count_rep (n : Nat) (x : Int) : (List.replicate n x).count x = n := by simp
/-- the lists that were grown, in their list -/
structure Mr (w : World) (vm : Value) (n : Nat) (en : Nat → En) (lv : Nat → Value) : Prop where
  row : w.ownsRow 0 38 1 vm n ((List.range n).map lv)
  ms : ∀ j, j < n → w.ownsRow 0 3 1 (lv j) (moreL en j 65).length (ints (moreL en j 65))
theorem sl_infos : (Try.prog.info? 38).map (fun i => (i.zero, i.size, i.bytes)) = some (some (.slice none 0 0), 1, 24) := by kernel_rfl
/-- append(more, l) -/
theorem wpList_apM {w : World} {ops : Array Oper} {rest : List Oper} {o : Oper} {a : Act} {Q : Exit → Act → World → Prop} (hgd : o.guard = none) (x y : Operand) (ho : o.op = .call { callee := .builtin .append, args := #[x, y], argTypes := #[76, 76] }) (v : Value) (n : Nat) (L : List Value) (hx : a.eval x = v) (hv : w.ownsRow 0 38 1 v n L) (g : Nat) (u : Value) (hu : u.oneCell' = true) (hy : a.eval y = .slice (some ⟨g, 0, none⟩) 1 1) (hg : w.heap[g]? = some (.cells #[u] 38)) (hl : n ≤ 1000000)
    (h : ∀ v' w', w'.ownsRow 0 38 1 v' (n + 1) (L ++ [u]) → w.grownBy w' v.ownBlock → (v'.ownBlock = v.ownBlock ∨ v'.ownBlock = some w.heap.size) → wpList Try.prog ops Q rest (a.put o.dst v') w') : wpList Try.prog ops Q (o :: rest) a w := by
  obtain ⟨i0, hi, hz0, hz1, hz2⟩ := info_parts sl_infos
  refine wpList_append_own_at _ hgd _ _ 76 ho 0 38 i0 _ 1 24 Try.underlying76 hi hz0 hz1 hz2 rfl (by decide) _ _ _ hx hv ⟨g, 0, none⟩ 1 1 [u] hy rfl ?_ (by intro z hz; rw [List.mem_singleton.1 hz]; exact hu) (by unfold maxLen; omega) (by omega) (Nat.zero_le _) ?_
  · intro j z hj
    rw [Addr.add_mid, Nat.zero_add, cell_row hg]
    simpa using hj
  · intro v' w' h1 h2 _ h4
    exact h v' w' h1 h2 h4
/-- one list more -/
theorem Mr.push {w wa w4 : World} {vm : Value} {n : Nat} {en : Nat → En} {lv : Nat → Value} (h : Mr w vm n en lv) {l : Value} (hb : Kp w wa non) (hl : wa.ownsRow 0 3 1 l (moreL en n 65).length (ints (moreL en n 65))) {vm' : Value} (o4 : w4.ownsRow 0 38 1 vm' (n + 1) ((List.range n).map lv ++ [l])) (g4 : wa.grownBy w4 vm.ownBlock) :
    Mr w4 vm' (n + 1) en (updN lv n l) := by
  have kG : Kp wa w4 (fun k => vm.ownBlock = some k) := (Kp.of_grown g4).mono (fun k e => e.symm)
  have neW : ∀ {v : Value} {m : Nat} {xs : List Value} {k : Nat}, wa.ownsRow 0 3 1 v m xs → v.ownBlock = some k → ¬ vm.ownBlock = some k := fun ho hk e => by
    obtain ⟨c, hc⟩ := own_typ h.row e
    have hc1 := (hb.block _ (blk_lt hc) (fun f => f)).trans hc
    obtain ⟨c2, hc2⟩ := own_typ ho hk
    have := hc2.symm.trans hc1
    simp at this
  refine ⟨?_, fun j hj => ?_⟩
  · have : (List.range (n + 1)).map (updN lv n l) = (List.range n).map lv ++ [l] := by
      rw [List.range_succ, List.map_append]
      congr 1
      · apply List.map_congr_left
        intro j hj
        exact updN_other (by have := List.mem_range.1 hj; omega)
      · simp [updN_same]
    rw [this]
    exact o4
  · by_cases q : j = n
    · subst q; rw [updN_same]; exact own_kp hl kG (fun k e => neW hl e)
    · rw [updN_other q]
      have := own_kp (h.ms j (by omega)) hb (fun _ _ f => f)
      exact own_kp this kG (fun k e => neW this e)
theorem Mr.kp {w w' : World} {vm : Value} {n : Nat} {en : Nat → En} {lv : Nat → Value} (h : Mr w vm n en lv) (hk : Kp w w' non) : Mr w' vm n en lv := ⟨own_kp h.row hk (fun _ _ f => f), fun j hj => own_kp (h.ms j hj) hk (fun _ _ f => f)⟩
end Go.Proofs.Ytnegdhnmgkpkjaa
