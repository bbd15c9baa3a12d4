import Derived.Test.YtndfhpfhgdamgaaGreatDoorGDdCheck
import Derived.Test.YtndfhpfhgdamgaaGreatDoorGDsStab
import Derived.Test.YtndfhpfhgdamgaaGreatDoorGCaBase
import Derived.Maps.Range
import Derived.Maps.RangeWalk
namespace Go.Proofs.YtndfhpfhgdamgaaGreatDoor.Cn
open Go.RowKit
theorem info_parts {t : TypeId} {z : Value} {n m : Nat} (h : (Tryz.prog.info? t).map (fun i => (i.zero, i.size, i.bytes)) = some (some z, n, m)) : ∃ i, Tryz.prog.info? t = some i ∧ i.zero = some z ∧ i.size = n ∧ i.bytes = m := by
  cases e : Tryz.prog.info? t with
  | none => rw [e] at h; simp at h
  | some i =>
    rw [e] at h
    simp only [Option.map_some, Option.some.injEq, Prod.mk.injEq] at h
    exact ⟨i, rfl, h.1, h.2.1, h.2.2⟩
theorem int_infos : (Tryz.prog.info? 3).map (fun i => (i.zero, i.size, i.bytes)) = some (some (.int .i64 0), 1, 8) := by kernel_rfl
theorem own_base {w : World} {base base' e sz n : Nat} {v : Value} {xs : List Value} (h : w.ownsRow base e sz v n xs) (hb : base' ≤ base) : w.ownsRow base' e sz v n xs := by
  refine ⟨h.1, ?_⟩
  rcases h.2 with ⟨hv, hz⟩ | ⟨g, cap, cur, hv, h1, h2⟩
  · exact .inl ⟨hv, hz⟩
  · exact .inr ⟨g, cap, cur, hv, Nat.le_trans hb h1, h2⟩
theorem own_ge {X : World} {base e sz n g : Nat} {v : Value} {xs : List Value} (h : X.ownsRow base e sz v n xs) (hg : v.ownBlock = some g) : base ≤ g := by
  rcases h.2 with ⟨rfl, _⟩ | ⟨g', cap, cur, rfl, hb, hg', hr⟩
  · simp [Value.ownBlock] at hg
  · simp [Value.ownBlock] at hg
    subst hg
    exact hb
theorem own_typ {X : World} {base e sz n g : Nat} {v : Value} {xs : List Value} (h : X.ownsRow base e sz v n xs) (hg : v.ownBlock = some g) : ∃ cur, X.heap[g]? = some (.cells cur e (0, 0)) := by
  rcases h.2 with ⟨rfl, _⟩ | ⟨g', cap, cur, rfl, hb, hg', hr⟩
  · simp [Value.ownBlock] at hg
  · simp [Value.ownBlock] at hg
    subst hg
    exact ⟨cur, hg'⟩
theorem own_lt {X : World} {base e sz n g : Nat} {v : Value} {xs : List Value} (h : X.ownsRow base e sz v n xs) (hg : v.ownBlock = some g) : g < X.heap.size := by
  obtain ⟨cur, hc⟩ := own_typ h hg
  exact blk_lt hc
theorem own_re {X : World} {base base' e sz n : Nat} {v : Value} {xs : List Value} (h : X.ownsRow base e sz v n xs) (hg : ∀ g, v.ownBlock = some g → base' ≤ g) : X.ownsRow base' e sz v n xs := by
  refine ⟨h.1, ?_⟩
  rcases h.2 with ⟨hv, hz⟩ | ⟨g, cap, cur, rfl, h1, h2⟩
  · exact .inl ⟨hv, hz⟩
  · exact .inr ⟨g, cap, cur, rfl, hg g rfl, h2⟩
/-- a cell of a row -/
theorem own_at {X : World} {base e sz n : Nat} {v : Value} {xs : List Value} (h : X.ownsRow base e sz v n xs) {j : Nat} {u : Value} (hj : xs[j]? = some u) : ∃ g cap, v = .slice (some ⟨g, 0, none⟩) n cap ∧ X.cell? ⟨g, j, none⟩ = some u ∧ X.frozen? ⟨g, j, none⟩ = false := by
  have hl := (List.getElem?_eq_some_iff.1 hj).1
  rcases h.2 with ⟨_, hz⟩ | ⟨g, cap, cur, rfl, h1, h2, h3, h4, h5, h6⟩
  · have := h.1
    rw [hz] at this
    omega
  · refine ⟨g, cap, rfl, ?_, ?_⟩
    · rw [cell_row h2]
      rw [← h6, List.getElem?_take] at hj
      split at hj
      · simpa using hj
      · simp at hj
    · exact fz_row h2 j
/-- a detector of the document's -/
def mks (l : List Int) : List Value := l.flatMap fun t => [.bool false, .int .i64 t]
theorem mks_append (a b : List Int) : mks (a ++ b) = mks a ++ mks b := List.flatMap_append
theorem mks_len (l : List Int) : (mks l).length = l.length * 2 := by
  unfold mks
  induction l with
  | nil => rfl
  | cons s l ih => simp only [List.flatMap_cons, List.length_append, ih, List.length_cons, List.length_nil]; omega
theorem mks_at : ∀ (l : List Int) (q : Nat) (h : q < l.length), (mks l)[q * 2 + 1]? = some (.int .i64 l[q])
  | [], q, h => absurd h (by simp)
  | s :: l, 0, _ => by simp [mks]
  | s :: l, q + 1, h => by
    have ih := mks_at l q (by simpa using h)
    rw [show (q + 1) * 2 + 1 = q * 2 + 1 + 1 + 1 by omega]
    simpa [mks] using ih
theorem mks_one (l : List Int) : ∀ u ∈ mks l, u.oneCell' = true := by
  intro u hu
  unfold mks at hu
  obtain ⟨s, _, hs⟩ := List.mem_flatMap.1 hu
  simp at hs
  rcases hs with rfl | rfl <;> rfl
def lastT (l : List Int) : Int := l.getLastD 0
def RfS (R : Nat) (vs : Value) (pv : Nat → Value) (n : Nat) : Nat → Prop := fun k => k = R ∨ vs.ownBlock = some k ∨ ∃ i, i < n ∧ (pv i).ownBlock = some k
end Go.Proofs.YtndfhpfhgdamgaaGreatDoor.Cn
namespace Go.Proofs.YtndfhpfhgdamgaaGreatDoor.Cn
open Go.RowKit
set_option maxHeartbeats 4000000 in
set_option maxRecDepth 100000 in
theorem isNaN_any (w : World) (x : Int) : Calls Tryz.prog 121 #[.int .i64 x] w fun e w' => e = .returned (.bool false) ∧ w = w' := by
  go_enter Tryz.func121, Tryz.ntmps121
  go_wp2_with fail
  go_ret
  exact ⟨by simp, rfl⟩
def cmpI (x y : Int) : Int := if x < y then -1 else if y < x then 1 else 0
theorem cmpI_lt (x y : Int) : cmpI x y < 0 ↔ x < y := by
  unfold cmpI
  split
  · omega
  · split <;> omega
set_option maxHeartbeats 4000000 in
set_option maxRecDepth 100000 in
set_option linter.unusedSimpArgs false in
theorem compare_any (w : World) (x y : Int) : Calls Tryz.prog 102 #[.int .i64 x, .int .i64 y] w fun e w' => e = .returned (.int .i64 (cmpI x y)) ∧ w = w' := by
  have NA := hide fun w x => isNaN_any w x
  unfold cmpI
  by_cases h1 : x < y
  · rw [if_pos h1]
    go_enter Tryz.func102, Tryz.ntmps102
    go_wp2_with fail
    refine Calls.mono (NA.out _ _) ?_
    rintro e W1 ⟨rfl, rfl⟩
    go_wp2_with fail
    refine Calls.mono (NA.out _ _) ?_
    rintro e W1 ⟨rfl, rfl⟩
    go_wp2_with fail
    go_ret
    exact ⟨rfl, rfl⟩
  · rw [if_neg h1]
    by_cases h2 : y < x
    · rw [if_pos h2]
      go_enter Tryz.func102, Tryz.ntmps102
      go_wp2_with fail
      refine Calls.mono (NA.out _ _) ?_
      rintro e W1 ⟨rfl, rfl⟩
      go_wp2_with fail
      refine Calls.mono (NA.out _ _) ?_
      rintro e W1 ⟨rfl, rfl⟩
      go_wp2_with fail
      go_ret
      exact ⟨rfl, rfl⟩
    · rw [if_neg h2]
      go_enter Tryz.func102, Tryz.ntmps102
      go_wp2_with fail
      refine Calls.mono (NA.out _ _) ?_
      rintro e W1 ⟨rfl, rfl⟩
      go_wp2_with fail
      refine Calls.mono (NA.out _ _) ?_
      rintro e W1 ⟨rfl, rfl⟩
      go_wp2_with fail
      go_ret
      exact ⟨rfl, rfl⟩
set_option maxHeartbeats 8000000 in
set_option maxRecDepth 100000 in
set_option linter.unusedSimpArgs false in
set_option linter.unusedVariables false in
theorem clos_any {w : World} {D M1 M2 : Nat} {L1 L2 : List (Int × Int)} {d : Dt} (h : DtIn w D M1 M2 L1 L2 d) (X : Nat) (hX : w.heap[X]? = some (.cells #[.pointer (some ⟨D, 0, none⟩)] 80)) (x y : Int) (hx0 : -9223372036854775808 ≤ x) (hx1 : x < 9223372036854775808) (hy0 : -9223372036854775808 ≤ y) (hy1 : y < 9223372036854775808) :
    Calls Tryz.prog 101 #[.int .i64 x, .int .i64 y, .pointer (some ⟨X, 0, none⟩)] w fun e w' => e = .returned (.int .i64 (cmpI (d.till x) (d.till y))) ∧ ∃ q, w' = w.drewN q := by
  have c0 : w.cell? ⟨X, 0, none⟩ = some (.pointer (some ⟨D, 0, none⟩)) := cell_row hX 0
  have HT : Hid (∀ (k : Nat) (z : Int), (z = x ∨ z = y) → Calls Tryz.prog 89 #[.pointer (some ⟨D, 0, none⟩), .int .i64 z] (w.drewN k) fun e w' => e = .returned (.int .i64 (d.till z)) ∧ w' = w.drewN k) := fun k z hz => Calls.mono (till_any (h.kp ((Kp.refl w non).drewN k) (fun _ _ f => f)) z (by omega) (by omega)) (by rintro e W ⟨rfl, rfl⟩; exact ⟨rfl, rfl⟩)
  have HCc : Hid (∀ (W : World) (a b : Int), Calls Tryz.prog 102 #[.int .i64 a, .int .i64 b] W fun e w' => e = .returned (.int .i64 (cmpI a b)) ∧ w' = W) := fun W a b => Calls.mono (compare_any W _ _) (by rintro e W ⟨rfl, rfl⟩; exact ⟨rfl, rfl⟩)
  generalize d.till = tl at *
  clear h hX hx0 hx1 hy0 hy1
  go_enter Tryz.func101, Tryz.ntmps101
  go_wp2_with fail
  go_quiet (first | (go_at_call 102; refine Calls.quiet_of_same (HCc.out _ _ _)) | (go_at_call 89; refine Calls.quiet_of_same (HT.out _ _ (by first | exact Or.inl rfl | exact Or.inr rfl))))
  go_wp2_with fail
  go_ret
  exact ⟨rfl, nq, rfl⟩
end Go.Proofs.YtndfhpfhgdamgaaGreatDoor.Cn
namespace Go.Proofs.YtndfhpfhgdamgaaGreatDoor.Cn
/-- bans end in time -/
def Dt.enb (d : Dt) : Prop := ∀ k, d.en k ≤ d.now + d.ban
/-- the document's order -/
def ordL (d : Dt) (ns : List Int) : List Int := ns.filter (fun x => decide (d.en x ≤ d.now)) ++ (List.range d.ban.toNat).flatMap fun t : Nat => ns.filter (fun x => decide (d.en x = d.now + 1 + (t : Int)))
theorem flat_one {α : Type} (X : List α) (t0 : Int) (now : Int) : ∀ n : Nat, ((List.range n).flatMap fun t : Nat => if t0 = now + 1 + (t : Int) then X else []) = if now < t0 ∧ t0 ≤ now + (n : Int) then X else []
  | 0 => by
    rw [if_neg (by omega)]
    rfl
  | n + 1 => by
    rw [List.range_succ, List.flatMap_append, flat_one X t0 now n]
    simp only [List.flatMap_cons, List.flatMap_nil, List.append_nil]
    by_cases h1 : now < t0 ∧ t0 ≤ now + (n : Int)
    · rw [if_pos h1, if_neg (by omega), if_pos (by omega), List.append_nil]
    · rw [if_neg h1, List.nil_append]
      by_cases h2 : t0 = now + 1 + (n : Int)
      · rw [if_pos h2, if_pos (by omega)]
      · rw [if_neg h2, if_neg (by omega)]
theorem till_le {d : Dt} (h0 : 0 ≤ d.now) (x : Int) : (d.till x = 0 ↔ d.en x ≤ d.now) ∧ (d.now < d.en x → d.till x = d.en x) := by
  unfold Dt.till
  by_cases h : d.now < d.en x
  · rw [if_pos h]; omega
  · rw [if_neg h]; omega
theorem filter_nil_of {l : List Int} {p : Int → Bool} (h : ∀ x ∈ l, p x = false) : l.filter p = [] := List.filter_eq_nil_iff.2 fun x hx => by rw [h x hx]; decide
theorem ord_eqf {d : Dt} (h0 : 0 ≤ d.now) (hb : d.enb) (hb1 : 0 ≤ d.ban) (ns : List Int) : EqF d.till ns (ordL d ns) := fun v => by
  unfold ordL
  rw [List.filter_append, List.filter_flatMap]
  simp only [List.filter_filter]
  by_cases hv : v = 0
  · subst hv
    have e1 : (ns.filter fun x => (d.till x == 0) && decide (d.en x ≤ d.now)) = ns.filter (fun x => d.till x == 0) := by
      apply List.filter_congr
      intro x _
      have := (till_le h0 x).1
      by_cases q : d.en x ≤ d.now
      · simp [q, this.2 q]
      · have : ¬ d.till x = 0 := fun e => q (this.1 e)
        simp [q, this]
    have e2 : ((List.range d.ban.toNat).flatMap fun t : Nat => ns.filter (fun x => (d.till x == 0) && decide (d.en x = d.now + 1 + (t : Int)))) = [] := by
      rw [List.flatMap_eq_nil_iff]
      intro t _
      refine filter_nil_of fun x _ => ?_
      by_cases q : d.en x = d.now + 1 + (t : Int)
      · have := (till_le h0 x).1
        have : ¬ d.till x = 0 := fun e => by have := this.1 e; omega
        simp [this]
      · simp [q]
    rw [e1, e2, List.append_nil]
  · have e1 : (ns.filter fun x => (d.till x == v) && decide (d.en x ≤ d.now)) = [] := by
      refine filter_nil_of fun x _ => ?_
      by_cases q : d.en x ≤ d.now
      · have := (till_le h0 x).1.2 q
        simp [this]
        intro e
        exact absurd e.symm hv
      · simp [q]
    have e2 : (fun t : Nat => ns.filter (fun x => (d.till x == v) && decide (d.en x = d.now + 1 + (t : Int)))) = fun t : Nat => if v = d.now + 1 + (t : Int) then ns.filter (fun x => d.till x == v) else [] := by
      funext t
      by_cases q : v = d.now + 1 + (t : Int)
      · rw [if_pos q]
        apply List.filter_congr
        intro x _
        by_cases r : d.till x = v
        · have : d.en x = v := by
            have := till_le h0 x
            by_cases s : d.en x ≤ d.now
            · have := this.1.2 s; omega
            · have := this.2 (by omega); omega
          simp [r, this, ← q]
        · simp [r]
      · rw [if_neg q]
        refine filter_nil_of fun x _ => ?_
        by_cases r : d.en x = d.now + 1 + (t : Int)
        · have := (till_le h0 x).2 (by omega)
          have : ¬ d.till x = v := by omega
          simp [this]
        · simp [r]
    rw [e1, e2, List.nil_append, flat_one]
    split
    · rfl
    · next q =>
      symm
      symm
      refine filter_nil_of fun x _ => ?_
      have h1 := till_le h0 x
      have h2 := hb x
      have : ¬ d.till x = v := fun e => by
        by_cases s : d.en x ≤ d.now
        · have := h1.1.2 s; omega
        · have := h1.2 (by omega); omega
      simp [this]
theorem pw_flat {d : Dt} (h0 : 0 ≤ d.now) (ns : List Int) : ∀ n : Nat, (((List.range n).flatMap fun t : Nat => ns.filter (fun x => decide (d.en x = d.now + 1 + (t : Int)))).Pairwise fun x y => d.till x ≤ d.till y) ∧ ∀ x ∈ (List.range n).flatMap (fun t : Nat => ns.filter (fun x => decide (d.en x = d.now + 1 + (t : Int)))), d.now < d.till x ∧ d.till x ≤ d.now + (n : Int)
  | 0 => ⟨by simp, by simp⟩
  | n + 1 => by
    obtain ⟨h1, h2⟩ := pw_flat h0 ns n
    have h3 : ∀ x ∈ ns.filter (fun x => decide (d.en x = d.now + 1 + (n : Int))), d.till x = d.now + 1 + (n : Int) := fun x hx => by
      have := (List.mem_filter.1 hx).2
      simp at this
      have := (till_le h0 x).2 (by omega)
      omega
    rw [List.range_succ, List.flatMap_append]
    simp only [List.flatMap_cons, List.flatMap_nil, List.append_nil]
    refine ⟨List.pairwise_append.2 ⟨h1, ?_, fun x hx y hy => ?_⟩, fun x hx => ?_⟩
    · exact List.pairwise_of_forall_mem_list fun x hx y hy => by rw [h3 x hx, h3 y hy]; exact Int.le_refl _
    · have := h2 x hx
      have := h3 y hy
      omega
    · rcases List.mem_append.1 hx with q | q
      · have := h2 x q; omega
      · have := h3 x q; omega
theorem ord_pw {d : Dt} (h0 : 0 ≤ d.now) (ns : List Int) : (ordL d ns).Pairwise fun x y => d.till x ≤ d.till y := by
  have h3 : ∀ x ∈ ns.filter (fun x => decide (d.en x ≤ d.now)), d.till x = 0 := fun x hx => by
    have := (List.mem_filter.1 hx).2
    simp at this
    exact (till_le h0 x).1.2 this
  obtain ⟨h1, h2⟩ := pw_flat h0 ns d.ban.toNat
  refine List.pairwise_append.2 ⟨?_, h1, fun x hx y hy => ?_⟩
  · exact List.pairwise_of_forall_mem_list fun x hx y hy => by rw [h3 x hx, h3 y hy]; exact Int.le_refl _
  · have := h3 x hx
    have := h2 y hy
    omega
theorem ord_unique {d : Dt} (h0 : 0 ≤ d.now) (hb : d.enb) (hb1 : 0 ≤ d.ban) {ns f : List Int} (he : EqF d.till ns f) (hp : f.Pairwise fun x y => d.till x ≤ d.till y) : f = ordL d ns := eqf_unique (K := d.till) (he.symm.trans (ord_eqf h0 hb hb1 ns)) hp (ord_pw h0 ns)
theorem ord_len {d : Dt} (h0 : 0 ≤ d.now) (hb : d.enb) (hb1 : 0 ≤ d.ban) {ns f : List Int} (hl : f.length = ns.length) (he : EqF d.till ns f) (hp : f.Pairwise fun x y => d.till x ≤ d.till y) : (ordL d ns).length = ns.length := by rw [← ord_unique h0 hb hb1 he hp, hl]
theorem enb_does {d : Dt} (h : d.enb) (hf : d.fits) (kd k : Int) : (d.does kd k).enb := by
  intro j
  have h1 := h j
  have h2 := h k
  have h3 := hf.b1
  have h4 := hf.t0
  unfold Dt.does
  split
  · split
    · show upd d.en k 0 j ≤ d.now + d.ban
      unfold upd
      split <;> omega
    · exact h1
  · split
    · split
      · show (if d.lim ≤ d.st k + 1 then upd d.en k (d.now + d.ban) else d.en) j ≤ d.now + d.ban
        split
        · unfold upd
          split <;> omega
        · exact h1
      · exact h1
    · split
      · show d.en j ≤ d.now + (_ : Int) + d.ban
        omega
      · exact h1
end Go.Proofs.YtndfhpfhgdamgaaGreatDoor.Cn
namespace Go.Proofs.YtndfhpfhgdamgaaGreatDoor.Cn
open Go.RowKit
theorem made_int (n : Nat) : madeCells (Value.int .i64 0).cells (n * 1) = (ints (List.replicate n 0)).toArray := by
  rw [Nat.mul_one]
  apply Array.ext
  · simp [size_madeCells, ints]
  · intro i h1 h2
    simp [madeCells, Value.cells, ints, Nat.mod_one]
set_option maxHeartbeats 8000000 in
set_option maxRecDepth 100000 in
set_option linter.unusedSimpArgs false in
set_option linter.unusedVariables false in
theorem sortStable_any {w0 w : World} {g : Nat} {d : List Int} (h : Sx w0 w g d) {cb : Value} {Ky : Int → Int} {ok : Int → Prop} {cf : Int → Int → Int} (hc : CmpC w0 g cb Ky ok cf) (ho : OkL ok d) (N : Nat) (hl : d.length = N) (hN : N ≤ 300) :
    Calls Tryz.prog 100 #[.slice (some ⟨g, 0, none⟩) N N, .func (.func 101) #[] #[cb]] w fun e w' => e = .returned (.tuple #[]) ∧ ∃ f : List Int, Seg Ky d f 0 N ∧ Srt Ky f 0 N ∧ Sx w0 w' g f := by
  have ST := hide (stable_any h hc ho N hl hN)
  clear h hc ho hl
  go_enter Tryz.func100, Tryz.ntmps100
  go_wp2_with fail
  refine Calls.mono ST.out ?_
  rintro e W1 ⟨rfl, f, h1, h2, h3⟩
  have H1 := hide h1
  have H2 := hide h2
  have H3 := hide h3
  clear h1 h2 h3
  go_wp2_with fail
  go_end0
  exact ⟨rfl, f, H1.out, H2.out, H3.out⟩
set_option maxHeartbeats 8000000 in
set_option maxRecDepth 100000 in
set_option linter.unusedSimpArgs false in
set_option linter.unusedVariables false in
theorem Order_bad {w : World} {S : Nat → Prop} {D : Nat} {d : Dt} (h : DtAt w S D d) (hf : d.fits) (ao : Option Addr) (b o cap : Nat) (ns : List Int) (hs : IsAt w ao b o ns) (hin : ¬ ∀ x ∈ ns, 0 ≤ x ∧ x < (d.n : Int)) :
    Calls Tryz.prog 85 #[.pointer (some ⟨D, 0, none⟩), .slice ao ns.length cap] w fun e w' => e = .returned (.tuple #[.slice none 0 0, .int .i64 68]) ∧ Below w.heap.size w w' := by
  obtain ⟨M1, M2, L1, L2, hi, hS⟩ := h
  obtain ⟨W0, hW0⟩ : ∃ W0, W0 = w.alloc (.cells #[.pointer (some ⟨D, 0, none⟩)] 80) := ⟨_, rfl⟩
  have hb : Below w.heap.size w W0 := by rw [hW0]; exact (Below.refl _ _).alloc (Nat.le_refl _) _
  have hx : W0.heap[w.heap.size]? = some (.cells #[.pointer (some ⟨D, 0, none⟩)] 80) := by rw [hW0]; exact heap_last _ _
  have c0 : W0.cell? ⟨w.heap.size, 0, none⟩ = some (.pointer (some ⟨D, 0, none⟩)) := cell_row hx 0
  have k0 := Kp.of_below hb non
  have CH := check_any (hi.kp k0 (fun _ _ f => f)).blk hf.n1 ao b o cap ns (hs.kp k0 (fun _ f => f))
  rw [chkE_bad hin] at CH
  have CH := hide CH
  have HB := hide hb
  clear hi hS hs hb hx k0 hin
  go_enter Tryz.func85, Tryz.ntmps85
  go_wp2_with fail
  rw [← hW0]
  clear hW0
  refine Calls.mono CH.out ?_
  rintro e W1 ⟨rfl, rfl⟩
  go_wp2_with fail
  go_ret2
  exact ⟨rfl, HB.out⟩
set_option maxHeartbeats 8000000 in
set_option maxRecDepth 100000 in
set_option linter.unusedSimpArgs false in
set_option linter.unusedVariables false in
theorem Order_any {w : World} {S : Nat → Prop} {D : Nat} {d : Dt} (h : DtAt w S D d) (hf : d.fits) (he : d.enb) (ao : Option Addr) (b o cap : Nat) (ns : List Int) (hs : IsAt w ao b o ns) (hin : ∀ x ∈ ns, 0 ≤ x ∧ x < (d.n : Int)) (hl : ns.length ≤ 300) :
    Calls Tryz.prog 85 #[.pointer (some ⟨D, 0, none⟩), .slice ao ns.length cap] w fun e w' => ∃ g, e = .returned (.tuple #[.slice (some ⟨g, 0, none⟩) ns.length ns.length, .int .i64 0]) ∧ Rw w' g (ordL d ns) ∧ (ordL d ns).length = ns.length ∧ w.heap.size ≤ g ∧ Below w.heap.size w w' := by
  obtain ⟨M1, M2, L1, L2, hi, hS⟩ := h
  obtain ⟨N, hN⟩ : ∃ N, N = ns.length := ⟨_, rfl⟩
  obtain ⟨X, hX⟩ : ∃ X, X = w.heap.size := ⟨_, rfl⟩
  obtain ⟨W0, hW0⟩ : ∃ W0, W0 = w.alloc (.cells #[.pointer (some ⟨D, 0, none⟩)] 80) := ⟨_, rfl⟩
  have hb : Below w.heap.size w W0 := by rw [hW0]; exact (Below.refl _ _).alloc (Nat.le_refl _) _
  have hx : W0.heap[X]? = some (.cells #[.pointer (some ⟨D, 0, none⟩)] 80) := by rw [hW0, hX]; exact heap_last _ _
  have c0 : W0.cell? ⟨X, 0, none⟩ = some (.pointer (some ⟨D, 0, none⟩)) := cell_row hx 0
  have k0 := Kp.of_below hb non
  have hi0 := hi.kp k0 (fun _ _ f => f)
  have hs0 := hs.kp k0 (fun _ f => f)
  have CH := check_any hi0.blk hf.n1 ao b o cap ns hs0
  rw [chkE_ok hin] at CH
  obtain ⟨i0, hio, hz0, hz1, hz2⟩ := info_parts int_infos
  obtain ⟨W1, hW1⟩ : ∃ W1, W1 = W0.alloc (.cells (ints (List.replicate N 0)).toArray 3) := ⟨_, rfl⟩
  have hmk : (Instr.makeSlice 25 (.int .i64 (N : Int)) (.int .i64 (N : Int))).run Tryz.prog W0 = .ok (.slice (some ⟨W0.heap.size, 0, none⟩) N N) W1 := by
    have h := run_make (P := Tryz.prog) W0 25 3 i0 _ Tryz.underlying25 hio hz0 .i64 .i64 (N : Int) (N : Int) (by omega) (by omega) (by rw [hz2]; omega) (by omega)
    rw [hz1, Int.toNat_natCast, made_int, ← hW1] at h
    exact h
  have b1 : Below W0.heap.size W0 W1 := by rw [hW1]; exact (Below.refl _ W0).alloc (Nat.le_refl _) _
  have hg1 : W1.heap[W0.heap.size]? = some (.cells (ints (List.replicate N 0)).toArray 3) := by rw [hW1]; exact heap_last _ _
  have hs1 := hs0.kp (Kp.of_below b1 non) (fun _ f => f)
  obtain ⟨g, hg⟩ : ∃ g, g = W0.heap.size := ⟨_, rfl⟩
  rw [← hg] at hmk hg1
  have hgw : w.heap.size ≤ g := by rw [hg]; exact hb.size
  have hXg : X < g := by rw [hg]; exact blk_lt hx
  have hcp : ∀ ty, ∃ W2, (Builtin.copy_ #[25, 25] ty #[.slice (some ⟨g, 0, none⟩) N N, .slice ao N cap]).run Tryz.prog W1 = .ok (.int .i64 (N : Int)) W2 ∧ Rw W2 g ns ∧ Kp W1 W2 (fun k => k = g) := fun ty => by
    by_cases h0 : N = 0
    · have := run_copy_none (P := Tryz.prog) W1 25 25 ty 3 (some ⟨g, 0, none⟩) ao N N N cap Tryz.underlying25 (by kernel_rfl) (by rw [h0]; rfl)
      refine ⟨W1, by rw [this, h0]; rfl, ?_, Kp.refl _ _⟩
      have : ns = [] := List.length_eq_zero_iff.1 (by omega)
      unfold Rw
      rw [hg1, h0, this]
      rfl
    · obtain rfl := hs1.at0 (by omega)
      have hrun := run_copy_row (P := Tryz.prog) W1 25 25 ty 3 g 0 N N ⟨b, o, none⟩ N cap _ 3 (ints ns) Tryz.underlying25 (by kernel_rfl) hg1 (by rw [ints_len, ← hN]; exact (Nat.min_self _).symm) (fun j v hj => by
        rw [Addr.add_mid]
        have hj' : j < ns.length := by
          have := (List.getElem?_eq_some_iff.1 hj).1
          rwa [ints_len] at this
        rw [hs1.cell j hj', ← hj, ints_at, List.getElem?_eq_getElem hj']
        rfl) (by simp [ints_len, hN]) (ints_one ns)
      refine ⟨_, by rw [hrun, ints_len, ← hN]; rfl, ?_, ?_⟩
      · unfold Rw
        rw [setRow_heap _ _ _ _ 3 (0, 0) hg1, List.take_zero, List.nil_append, List.drop_of_length_le (by simp [ints_len, hN]), List.append_nil]
      · exact ⟨rfl, rfl, rfl, by simp [World.setRow], fun k _ hs => setRow_other _ _ k _ hs⟩
  obtain ⟨W2, hr2, hw2, hk2⟩ := hcp 3
  have k2 : Kp w W2 (fun k => k = g) := ((k0.trans (Kp.of_below b1 non) (fun _ f => f.elim)).mono (fun _ f => f.elim)).trans hk2 (fun _ e => Or.inl e)
  have hi2 : DtIn W2 D M1 M2 L1 L2 d := hi.kp k2 (fun k hk e => by
    have : k < w.heap.size := by
      rcases hk with rfl | rfl | rfl
      · exact blk_lt hi.blk
      · exact hi.m1.lt
      · exact hi.m2.lt
    omega)
  have hx2 : W2.heap[X]? = some (.cells #[.pointer (some ⟨D, 0, none⟩)] 80) := (hk2.block X (Nat.lt_of_lt_of_le (blk_lt hx) b1.size) (by omega)).trans ((b1.block X (blk_lt hx)).trans hx)
  have HCm : CmpC W2 g (.pointer (some ⟨X, 0, none⟩)) d.till (fun x => -9223372036854775808 ≤ x ∧ x < 9223372036854775808) (fun x y => cmpI (d.till x) (d.till y)) := by
    refine ⟨fun W hW x y ox oy => ?_, fun x y => cmpI_lt _ _⟩
    refine clos_any (hi2.kp hW (fun k hk e => ?_)) X ((hW.block X (blk_lt hx2) (by omega)).trans hx2) x y ox.1 ox.2 oy.1 oy.2
    have : k < w.heap.size := by
      rcases hk with rfl | rfl | rfl
      · exact blk_lt hi.blk
      · exact hi.m1.lt
      · exact hi.m2.lt
    omega
  have hn16 := hf.n16
  have SO := hide (sortStable_any (w0 := W2) (w := W2) ⟨hw2, Kp.refl _ _⟩ HCm (fun x hx => by have := hin x hx; omega) N hN.symm (by omega))
  have HFIN : Hid (∀ (W : World) (f : List Int), Seg d.till ns f 0 N → Srt d.till f 0 N → Sx W2 W g f → Rw W g (ordL d ns) ∧ (ordL d ns).length = N ∧ Below w.heap.size w W) := fun W f h1 h2 h3 => by
    have hp : f.Pairwise fun x y => d.till x ≤ d.till y := srt_pairwise (by rw [h1.len, ← hN]; exact h2)
    have e := ord_unique hf.t0 he (by have := hf.b1; omega) h1.eqf hp
    rw [← e]
    refine ⟨h3.row, by rw [h1.len, hN], ?_⟩
    have : Kp w W non := (k2.trans h3.kp (fun _ q => Or.inl q)).trans (Kp.refl W non) (fun _ q => q.elim) |> fun kk => ⟨kk.os, kk.tape, kk.output, kk.size, fun k hk _ => kk.block k hk (by omega)⟩
    exact this.below
  have HGW := hide hgw
  rw [← hN]
  rw [← hN] at CH
  have CH := hide CH
  clear hi hS hb hx k0 hi0 hs0 hs1 hg1 b1 hW1 hz0 hz1 hz2 hio hw2 hk2 k2 hi2 hx2 HCm hin hs hN hcp hXg hgw hg he
  go_enter Tryz.func85, Tryz.ntmps85
  go_wp2_with fail
  rw [← hW0, ← hX]
  clear hW0 hX
  refine Calls.mono CH.out ?_
  rintro e W9 ⟨rfl, rfl⟩
  go_wp2_with fail
  refine Calls.mono SO.out ?_
  rintro e W3 ⟨rfl, f, h1, h2, h3⟩
  obtain ⟨z1, z2, z3⟩ := HFIN.out W3 f h1 h2 h3
  have Z1 := hide z1
  have Z2 := hide z2
  have Z3 := hide z3
  clear h1 h2 h3 z1 z2 z3
  go_wp2_with fail
  go_ret2
  exact ⟨g, rfl, Z1.out, Z2.out, HGW.out, Z3.out⟩
end Go.Proofs.YtndfhpfhgdamgaaGreatDoor.Cn
namespace Go.Proofs.YtndfhpfhgdamgaaGreatDoor.Cn
open Go.RowKit Go.MapKept Go.Maps
open Go.ChangeMaps (setBlock heap_setBlock_same heap_setBlock_other modify_eq_set set_perm)
variable {kt : TypeId} {κ : Type}
/-- a range over a map under way: 'rest' is still to come -/
def Rg (T : KeyT kt κ) (w : World) (M r : Nat) (L rest : List (κ × Value)) : Prop :=
  ∃ es clock since seen c0, w.heap[M]? = some (.map es clock) ∧ Raw T es clock L ∧ w.heap[r]? = some (.mapIter (some M) since seen c0) ∧ (∀ x ∈ es.toList, x.born < since) ∧ since ≤ c0 ∧ since ≤ clock ∧ (((leftOf es seen).toList.map fun x => (x.key, x.val)).Perm (enL T rest)) ∧ (∀ p ∈ rest, p ∈ L)
section
variable {T : KeyT kt κ} {L rest : List (κ × Value)} {w w' : World} {M r : Nat}
theorem Rg.mp (h : Rg T w M r L rest) : Mp T w M L := by
  obtain ⟨es, clock, since, seen, c0, h1, h2, _⟩ := h
  exact ⟨es, clock, h1, h2⟩
theorem Rg.ne (h : Rg T w M r L rest) : r ≠ M := by
  obtain ⟨es, clock, since, seen, c0, h1, h2, h3, _⟩ := h
  rintro rfl
  rw [h1] at h3
  simp at h3
theorem Rg.lt (h : Rg T w M r L rest) : r < w.heap.size := by
  obtain ⟨es, clock, since, seen, c0, h1, h2, h3, _⟩ := h
  exact blk_lt h3
theorem Rg.kp {S : Nat → Prop} (h : Rg T w M r L rest) (hk : Kp w w' S) (hM : ¬ S M) (hr : ¬ S r) : Rg T w' M r L rest := by
  have l1 := h.mp.lt
  have l2 := h.lt
  obtain ⟨es, clock, since, seen, c0, h1, h2, h3, h4⟩ := h
  exact ⟨es, clock, since, seen, c0, (hk.block _ l1 hM).trans h1, h2, (hk.block _ l2 hr).trans h3, h4⟩
theorem Rg.perm (h : Rg T w M r L rest) {rest' : List (κ × Value)} (hp : rest.Perm rest') : Rg T w M r L rest' := by
  obtain ⟨es, clock, since, seen, c0, h1, h2, h3, h4, h5, h6, h7, h8⟩ := h
  exact ⟨es, clock, since, seen, c0, h1, h2, h3, h4, h5, h6, h7.trans (hp.map _), fun p q => h8 p (hp.mem_iff.2 q)⟩
def rgLeft (w : World) (M r : Nat) : Nat := w.rangeLeft M r
theorem Rg.left (h : Rg T w M r L rest) : w.rangeLeft M r = rest.length := by
  obtain ⟨es, clock, since, seen, c0, h1, h2, h3, h4, h5, h6, h7, h8⟩ := h
  unfold World.rangeLeft
  rw [h1, h3]
  have := h7.length_eq
  simpa [enL] using this
/-- 'range m' -/
theorem Mp.range {t e : TypeId} (h : Mp T w M L) (ht : Tryz.prog.underlying t = some (.map kt e)) :
    ∃ X, (Instr.range t (.map (some M))).run Tryz.prog w = .ok (.pointer (some ⟨w.heap.size, 0, none⟩)) X ∧ Rg T X M w.heap.size L L ∧ Below w.heap.size w X ∧ X.heap.size = w.heap.size + 1 := by
  have hlt := h.lt
  obtain ⟨es, clock, hb, hr⟩ := h
  refine ⟨_, run_range_map w t kt e M es clock ht hb, ⟨es, clock, clock, #[], clock, ((MapKept.heap_alloc w _).2 M hlt).trans hb, hr, (MapKept.heap_alloc w _).1, ((stamped_iff es clock).1 hr.st).1, Nat.le_refl _, Nat.le_refl _, ?_, fun _ q => q⟩, (Below.refl _ w).alloc (Nat.le_refl _) _, by simp⟩
  have : leftOf es #[] = es := by simp [leftOf]
  rw [this]
  exact hr.pm
theorem flt_push (l : List MapEntry) (seen : Array Nat) (e : MapEntry) (hn : (l.map (·.born)).Nodup) (he : e ∈ l.filter fun x => !seen.contains x.born) : (l.filter fun x => !seen.contains x.born).Perm (e :: l.filter fun x => !(seen.push e.born).contains x.born) := by
  induction l with
  | nil => simp at he
  | cons a r ih =>
    rw [List.map_cons, List.nodup_cons] at hn
    have hs := (List.mem_filter.1 he).2
    by_cases ea : a.born = e.born
    · have hae : a = e := by
        have hm := (List.mem_filter.1 he).1
        rcases List.mem_cons.1 hm with h | h
        · exact h.symm
        · exact absurd (List.mem_map.2 ⟨e, h, ea.symm⟩) hn.1
      subst hae
      have h2 : (seen.push a.born).contains a.born = true := by rw [contains_push]; simp
      have : (r.filter fun x => !seen.contains x.born) = r.filter fun x => !(seen.push a.born).contains x.born := by
        refine List.filter_congr (fun x hx => ?_)
        rw [contains_push]
        have : (x.born == a.born) = false := by
          rw [beq_eq_false_iff_ne]
          exact fun e2 => hn.1 (List.mem_map.2 ⟨x, hx, e2⟩)
        rw [this, Bool.or_false]
      simp only [List.filter_cons, hs, h2, if_true, Bool.not_true, Bool.false_eq_true, if_false]
      rw [this]
    · have hm : e ∈ r.filter fun x => !seen.contains x.born := by
        obtain ⟨h1, h2⟩ := List.mem_filter.1 he
        rcases List.mem_cons.1 h1 with h | h
        · exact absurd (by rw [h]) ea
        · exact List.mem_filter.2 ⟨h, h2⟩
      have hq : (seen.push e.born).contains a.born = seen.contains a.born := by
        rw [contains_push]
        have : (a.born == e.born) = false := by rw [beq_eq_false_iff_ne]; exact ea
        rw [this, Bool.or_false]
      have i1 := ih hn.2 hm
      cases hc : seen.contains a.born
      · simp only [List.filter_cons, hq, hc, Bool.not_false, if_true]
        exact (List.Perm.cons _ i1).trans (List.Perm.swap _ _ _)
      · simp only [List.filter_cons, hq, hc, Bool.not_true, Bool.false_eq_true, if_false]
        exact i1
theorem left_push {es : Array MapEntry} {seen : Array Nat} {e : MapEntry} (hn : (es.toList.map (·.born)).Nodup) (he : e ∈ (leftOf es seen).toList) : (leftOf es seen).toList.Perm (e :: (leftOf es (seen.push e.born)).toList) := by
  have e1 : ∀ s : Array Nat, (leftOf es s).toList = es.toList.filter fun x => !s.contains x.born := fun s => by
    unfold leftOf
    rw [← Array.toList_filter]
  rw [e1] at he ⊢
  rw [e1]
  exact flt_push _ _ _ hn he
/-- the step -/
theorem Rg.next (h : Rg T w M r L rest) (ty : TypeId) :
    (rest = [] ∧ (Instr.next (.pointer (some ⟨r, 0, none⟩)) false ty).run Tryz.prog w = .ok (.tuple #[.bool false]) w) ∨
    ∃ p rest' X, rest.Perm (p :: rest') ∧ p ∈ L ∧ (Instr.next (.pointer (some ⟨r, 0, none⟩)) false ty).run Tryz.prog w = .ok (.tuple #[.bool true, T.enc p.1, p.2]) X ∧ Rg T X M r L rest' ∧ Kp w X (fun b => b = r) ∧ X.heap.size = w.heap.size ∧ (Instr.entry (.pointer (some ⟨r, 0, none⟩))).run Tryz.prog X = .ok (.tuple #[T.enc p.1, p.2]) X := by
  have hne := h.ne
  obtain ⟨es, clock, since, seen, c0, hb, hr, hi, hold, hsc, hsk, hpm, hsb⟩ := h
  rcases run_next_at (P := Tryz.prog) w ty r M since c0 seen es clock hi hb hold hsc with ⟨h0, hrun⟩ | ⟨e, he, w1, hal, hrun⟩
  · left
    refine ⟨?_, hrun⟩
    have := hpm.length_eq
    simp only [List.length_map, Array.length_toList, h0, enL] at this
    exact List.length_eq_zero_iff.1 this.symm
  · right
    have hmem := (mem_left he).1
    have hin : (e.key, e.val) ∈ enL T rest := hpm.mem_iff.1 (List.mem_map.2 ⟨e, he, rfl⟩)
    obtain ⟨p, hp, ep⟩ := List.mem_map.1 hin
    simp only [Prod.mk.injEq] at ep
    obtain ⟨q1, q2⟩ := ep
    obtain ⟨l1, l2, hl⟩ := List.append_of_mem hp
    have hperm : rest.Perm (p :: (l1 ++ l2)) := by rw [hl]; exact List.perm_middle
    have hnd := ((stamped_iff es clock).1 hr.st).2.1
    have hi1 : w1.heap[r]? = some (.mapIter (some M) since seen c0) := by rcases hal with rfl | rfl <;> exact hi
    have hb1 : w1.heap[M]? = some (.map es clock) := by rcases hal with rfl | rfl <;> exact hb
    have k1 : Kp w w1 non := by rcases hal with rfl | rfl; exact Kp.refl _ _; exact (Kp.refl w _).drew
    have hb' : (setBlock w1 r (.mapIter (some M) since (seen.push e.born) clock)).heap[M]? = some (.map es clock) := (setB_kp.block M (blk_lt hb1) (fun e => hne e.symm)).trans hb1
    have hn : ((leftOf es (seen.push e.born)).toList.map fun x => (x.key, x.val)).Perm (enL T (l1 ++ l2)) := by
      have a1 := (left_push hnd he).map (fun x : MapEntry => (x.key, x.val))
      have a2 : (enL T rest).Perm ((e.key, e.val) :: enL T (l1 ++ l2)) := by
        have := hperm.map (fun p : κ × Value => (T.enc p.1, p.2))
        rw [List.map_cons, q1, q2] at this
        exact this
      exact (a1.symm.trans (hpm.trans a2)).cons_inv
    refine ⟨p, l1 ++ l2, _, hperm, hsb p hp, by rw [q1, q2]; exact hrun, ⟨es, clock, since, seen.push e.born, clock, hb', hr, setB_at hi1, hold, hsk, hsk, hn, fun q hq => hsb q (hperm.mem_iff.2 (List.mem_cons_of_mem _ hq))⟩, (k1.mono (T := fun b => b = r) (fun _ f => f.elim)).trans setB_kp (fun k e => Or.inl e), ?_, ?_⟩
    · rcases hal with rfl | rfl <;> simp [setBlock]
    · rw [q1, q2]
      exact run_entry_at _ r M since seen es clock e (setB_at hi1) hb' hmem hnd
noncomputable def neK (K v : Value) : Bool := @decide (K ≠ v) (Classical.propDecidable _)
theorem neK_t {K v : Value} (h : K ≠ v) : neK K v = true := by unfold neK; simpa using h
theorem neK_f {K v : Value} (h : K = v) : neK K v = false := by unfold neK; simpa using h
theorem erase_flt {K : Value} : ∀ (l : List MapEntry) (j : Nat) (e0 : MapEntry), l[j]? = some e0 → e0.key = K → l.Pairwise (fun x y => x.key ≠ y.key) → l.eraseIdx j = l.filter fun x => neK K x.key
  | [], j, e0, h2, _, _ => by simp at h2
  | a :: r, 0, e0, h2, h3, hpw => by
    obtain ⟨w1, w2⟩ := List.pairwise_cons.1 hpw
    simp only [List.getElem?_cons_zero, Option.some.injEq] at h2
    subst h2
    rw [List.eraseIdx_cons_zero, List.filter_cons]
    simp only [neK_f h3.symm, Bool.false_eq_true, if_false]
    exact (List.filter_eq_self.2 (fun x hx => neK_t (by rw [← h3]; exact w1 x hx))).symm
  | a :: r, j + 1, e0, h2, h3, hpw => by
    obtain ⟨w1, w2⟩ := List.pairwise_cons.1 hpw
    rw [List.getElem?_cons_succ] at h2
    have hne : neK K a.key = true := neK_t (fun e => w1 e0 (List.mem_of_getElem? h2) (by rw [← e, h3]))
    rw [List.eraseIdx_cons_succ, List.filter_cons]
    simp only [hne, if_true]
    rw [erase_flt r j e0 h2 h3 w2]
theorem flt_map (l : List MapEntry) (K : Value) (p : MapEntry → Bool) : ((l.filter fun x => neK K x.key).filter p).map (fun x => (x.key, x.val)) = ((l.filter p).map fun x => (x.key, x.val)).filter fun q => neK K q.1 := by
  induction l with
  | nil => rfl
  | cons a r ih =>
    cases h1 : neK K a.key <;> cases h2 : p a <;> simp only [List.filter_cons, List.map_cons, h1, h2, ih, Bool.false_eq_true, if_false, if_true]
theorem enL_flt [DecidableEq κ] (T : KeyT kt κ) (rest : List (κ × Value)) (k : κ) : enL T (dele rest k) = (enL T rest).filter fun q => neK (T.enc k) q.1 := by
  unfold enL dele
  induction rest with
  | nil => rfl
  | cons a r ih =>
    by_cases ex : a.1 = k
    · have h1 : neK (T.enc k) (T.enc a.1) = false := neK_f (by rw [ex])
      rw [ex] at h1
      simp [ex, h1]
      simpa using ih
    · have h1 : neK (T.enc k) (T.enc a.1) = true := neK_t (fun e => ex (T.inj _ _ e).symm)
      simp [ex, h1]
      simpa using ih
/-- 'delete(m, k)' in the round -/
theorem Rg.del [DecidableEq κ] {t e ty : TypeId} (h : Rg T w M r L rest) (ht : Tryz.prog.underlying t = some (.map kt e)) {k : κ} (hk : T.ok k) :
    ∃ X, (Builtin.delete_ #[t, kt] ty #[.map (some M), T.enc k]).run Tryz.prog w = .ok (.tuple #[]) X ∧ Rg T X M r (dele L k) (dele rest k) ∧ Kp w X (fun b => b = M) ∧ X.heap.size = w.heap.size := by
  have hne := h.ne
  obtain ⟨es, clock, since, seen, c0, hb, hr, hi, hold, hsc, hsk, hpm, hsb⟩ := h
  obtain ⟨kl, hkey⟩ := T.key k hk
  have oks : ∀ p ∈ dele L k, T.ok p.1 := fun p hp => hr.ks p (List.mem_filter.1 hp).1
  have sub : ∀ p ∈ dele rest k, p ∈ dele L k := fun p hp => List.mem_filter.2 ⟨hsb p (List.mem_filter.1 hp).1, (List.mem_filter.1 hp).2⟩
  have hall : ∀ q : Value × Value, q ∈ enL T (dele L k) → q.1 ≠ T.enc k := fun q hq => enL_dele T L k q hq
  have e1 : ∀ (a : Array MapEntry) (s : Array Nat), (leftOf a s).toList = a.toList.filter fun x => !s.contains x.born := fun a s => by
    unfold leftOf
    rw [← Array.toList_filter]
  rcases T.law.find w hkey es.toList hr.keys with ⟨h1, h2⟩ | ⟨j, e0, h1, h2, h3⟩
  · have hL : ∀ p ∈ L, p.1 ≠ k := fun p hp ep => by
      obtain ⟨x, hx, ex, _⟩ := hr.mem' hp
      exact h2 x hx (by rw [ex, ep])
    have hn : dele L k = L := filter_ne_all hL
    have hn2 : dele rest k = rest := filter_ne_all (fun p hp => hL p (hsb p hp))
    rw [hn, hn2]
    refine ⟨setBlock w M (.map es clock), ?_, ⟨es, clock, since, seen, c0, setB_at hb, hr, (setB_kp.block _ (blk_lt hi) hne).trans hi, hold, hsc, hsk, hpm, hsb⟩, setB_kp, by simp [setBlock]⟩
    simp [Builtin.delete_, run_underlying ht, MapKept.run_getObj_map hb, T.law.check w _ hkey, h1, MapKept.run_setObj_map _ hb, Result.andThen, setBlock]
  · have hjl : j < es.toList.length := (List.getElem?_eq_some_iff.1 h2).1
    have hjs : j < es.size := by simpa using hjl
    have hsub : (es.eraseIdxIfInBounds j).toList = es.toList.eraseIdx j := by
      unfold Array.eraseIdxIfInBounds
      rw [dif_pos hjs]
      simp
    have hx : e0 ∈ es.toList := List.mem_of_getElem? h2
    obtain ⟨p, hp, ep, ev⟩ := hr.mem hx
    have pk : p.1 = k := T.inj _ _ (ep.symm.trans h3)
    have hfil := erase_flt es.toList j e0 h2 h3 ((stamped_iff es clock).1 hr.st).2.2
    have hperm1 : (kvs (es.eraseIdxIfInBounds j)).Perm (enL T (dele L k)) := by
      unfold kvs
      rw [hsub, Go.ChangeMaps.map_eraseIdx]
      have a1 : (es.toList.map fun x => (x.key, x.val)).Perm ((e0.key, e0.val) :: (es.toList.map fun x => (x.key, x.val)).eraseIdx j) := perm_at (by simp [h2])
      have a2 : (enL T L).Perm ((e0.key, e0.val) :: enL T (dele L k)) := by
        have := (perm_split hr.nd hp).map (fun p : κ × Value => (T.enc p.1, p.2))
        rw [List.map_cons, ← ep, ← ev, pk] at this
        exact this
      exact (a1.symm.trans (hr.pm.trans a2)).cons_inv
    refine ⟨setBlock w M (.map (es.eraseIdxIfInBounds j) clock), ?_, ⟨es.eraseIdxIfInBounds j, clock, since, seen, c0, setB_at hb, ⟨stamped_erase hr.st j, Nat.le_trans (MapFrom.size_erase es j) hr.sz, oks, hperm1⟩, (setB_kp.block _ (blk_lt hi) hne).trans hi, fun x hx' => ?_, hsc, hsk, ?_, sub⟩, setB_kp, by simp [setBlock]⟩
    · simp [Builtin.delete_, run_underlying ht, MapKept.run_getObj_map hb, T.law.check w _ hkey, h1, MapKept.run_setObj_map _ hb, Result.andThen, setBlock]
    · rw [hsub] at hx'
      exact hold x ((List.eraseIdx_sublist _ _).subset hx')
    · have a3 : ((leftOf (es.eraseIdxIfInBounds j) seen).toList.map fun x => (x.key, x.val)) = ((leftOf es seen).toList.map fun x => (x.key, x.val)).filter fun q => neK (T.enc k) q.1 := by
        rw [e1, e1, hsub, hfil]
        exact flt_map es.toList (T.enc k) (fun x => !seen.contains x.born)
      have a4 := enL_flt T rest k
      rw [a3, a4]
      exact hpm.filter _
end
end Go.Proofs.YtndfhpfhgdamgaaGreatDoor.Cn
namespace Go.Proofs.YtndfhpfhgdamgaaGreatDoor.Cn
open Go.RowKit Go.MapKept Go.Maps
variable {kt : TypeId} {κ : Type} {T : KeyT kt κ}
/-- 'range m' at the operation -/
theorem wpList_rangeM (w : World) {ops : Array Oper} {rest : List Oper} {o : Oper} {a : Act} {Q : Exit → Act → World → Prop} (hg : o.guard = none) (m : Operand) (t e : TypeId) (hop : o.op = Op.range t m) (ht : Tryz.prog.underlying t = some (.map kt e)) (M : Nat) (L : List (κ × Value)) (hm : a.eval m = .map (some M)) (h : Mp T w M L)
    (hK : ∀ w', Rg T w' M w.heap.size L L → Below w.heap.size w w' → w'.heap.size = w.heap.size + 1 → wpList Tryz.prog ops Q rest (a.put o.dst (.pointer (some ⟨w.heap.size, 0, none⟩))) w') :
    wpList Tryz.prog ops Q (o :: rest) a w := by
  refine wpList_plain hg fun K' hK' => ?_
  obtain ⟨w', hrun, r1, r2, r3⟩ := h.range ht
  unfold Oper.wp
  simp [execOp, hop, hm, hrun, Result.andThen]
  exact hK' _ _ (hK w' r1 r2 r3)
/-- the step at the operation -/
theorem wpList_nextM (w : World) {ops : Array Oper} {rest : List Oper} {o : Oper} {a : Act} {Q : Exit → Act → World → Prop} (hg : o.guard = none) (it : Operand) (hop : o.op = Op.next it false) (M r : Nat) (L R : List (κ × Value)) (hit : a.eval it = .pointer (some ⟨r, 0, none⟩)) (h : Rg T w M r L R)
    (hDone : R = [] → wpList Tryz.prog ops Q rest (a.put o.dst (.tuple #[.bool false])) w)
    (hMore : ∀ (p : κ × Value) (R' : List (κ × Value)) (w' : World), R.Perm (p :: R') → p ∈ L → Rg T w' M r L R' → Kp w w' (fun b => b = r) → w'.heap.size = w.heap.size → (Instr.entry (.pointer (some ⟨r, 0, none⟩))).run Tryz.prog w' = .ok (.tuple #[T.enc p.1, p.2]) w' → wpList Tryz.prog ops Q rest (a.put o.dst (.tuple #[.bool true, T.enc p.1, p.2])) w') :
    wpList Tryz.prog ops Q (o :: rest) a w := by
  refine wpList_plain hg fun K' hK' => ?_
  unfold Oper.wp
  rcases h.next o.type with ⟨h0, hrun⟩ | ⟨p, R', X, hp, hL, hrun, hr, hk, hs, he⟩
  · simp [execOp, hop, hit, hrun, Result.andThen]
    exact hK' _ _ (hDone h0)
  · simp [execOp, hop, hit, hrun, Result.andThen]
    exact hK' _ _ (hMore p R' X hp hL hr hk hs he)
end Go.Proofs.YtndfhpfhgdamgaaGreatDoor.Cn
