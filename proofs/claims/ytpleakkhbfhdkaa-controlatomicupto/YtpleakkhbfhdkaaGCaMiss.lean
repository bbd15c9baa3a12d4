import Derived.Test.YtpleakkhbfhdkaaGCaBase
namespace Go.Proofs.Ytpleakkhbfhdkaa.Cn
open Go.RowKit
/-- ints, as cells -/
def ints (L : List Int) : List Value := L.map fun n : Int => .int .i64 n
theorem ints_len (L : List Int) : (ints L).length = L.length := by simp [ints]
theorem ints_at (L : List Int) (q : Nat) : (ints L)[q]? = (L[q]?).map fun n : Int => .int .i64 n := by simp [ints]
theorem ints_append (a b : List Int) : ints (a ++ b) = ints a ++ ints b := by simp [ints]
theorem ints_one (L : List Int) : ∀ u ∈ ints L, u.oneCell' = true := by
  intro u hu
  obtain ⟨n, _, rfl⟩ := List.mem_map.1 hu
  rfl
theorem int_infos : (Try.prog.info? 3).map (fun i => (i.zero, i.size, i.bytes)) = some (some (.int .i64 0), 1, 8) := by kernel_rfl
/-- append(list, k) -/
theorem wpList_apI {w : World} {ops : Array Oper} {rest : List Oper} {o : Oper} {a : Act} {Q : Exit → Act → World → Prop} (hgd : o.guard = none) (x y : Operand) (ho : o.op = .call { callee := .builtin .append, args := #[x, y], argTypes := #[37, 37] }) (base : Nat) (v : Value) (L : List Int) (hx : a.eval x = v) (hv : w.ownsRow base 3 1 v L.length (ints L)) (g : Nat) (m : Int) (hy : a.eval y = .slice (some ⟨g, 0, none⟩) 1 1) (hg : w.heap[g]? = some (.cells #[.int .i64 m] 3)) (hl : L.length ≤ 1000000000000) (hb : base ≤ w.heap.size)
    (h : ∀ v' w', w'.ownsRow base 3 1 v' (L.length + 1) (ints (L ++ [m])) → w.grownBy w' v.ownBlock → wpList Try.prog ops Q rest (a.put o.dst v') w') : wpList Try.prog ops Q (o :: rest) a w := by
  obtain ⟨i0, hi, hz0, hz1, hz2⟩ := mg_parts int_infos
  refine wpList_append_own_at _ hgd _ _ 37 ho base 3 i0 _ 1 8 Try.underlying37 hi hz0 hz1 hz2 rfl (by decide) _ _ _ hx hv ⟨g, 0, none⟩ 1 1 (ints [m]) hy rfl ?_ (ints_one _) (by unfold maxLen; omega) (by omega) hb ?_
  · intro j u hj
    rw [Addr.add_mid, Nat.zero_add, cell_row hg]
    simpa [ints] using hj
  · intro v' w' h1 h2 _ _
    rw [← ints_append] at h1
    exact h v' w' h1 h2
/-- those of the first i that have not answered -/
def missL (al : List (Bool × Int)) : Nat → List Int
  | 0 => []
  | i + 1 => if (al.getD i (true, 0)).1 = true then missL al i else missL al i ++ [(i : Int)]
theorem missL_succ (al : List (Bool × Int)) (i : Nat) : missL al (i + 1) = if (al.getD i (true, 0)).1 = true then missL al i else missL al i ++ [(i : Int)] := rfl
def miss (al : List (Bool × Int)) : List Int := missL al al.length
theorem missL_len (al : List (Bool × Int)) (i : Nat) : (missL al i).length ≤ i := by
  induction i with
  | zero => simp [missL]
  | succ i ih =>
    unfold missL
    split
    · omega
    · simp; omega
theorem own_below {w w' : World} {base e sz n : Nat} {v : Value} {xs : List Value} (h : w.ownsRow base e sz v n xs) (hb : Below w.heap.size w w') : w'.ownsRow base e sz v n xs := own_kp h (Kp.of_below hb non) (fun _ _ f => f)
theorem own_ge {X : World} {base e sz n g : Nat} {v : Value} {xs : List Value} (h : X.ownsRow base e sz v n xs) (hg : v.ownBlock = some g) : base ≤ g := by
  rcases h.2 with ⟨rfl, _⟩ | ⟨g', cap, cur, rfl, hb, hg', hr⟩
  · simp [Value.ownBlock] at hg
  · simp [Value.ownBlock] at hg
    subst hg
    exact hb
set_option maxHeartbeats 4000000 in
set_option maxRecDepth 100000 in
set_option linter.unusedSimpArgs false in
set_option linter.unusedVariables false in
theorem missing_any {w : World} {P A : Nat} {ty : TypeId} {u : Ru} {r : Rd} (h : RdAt w P A ty u r) (h16 : u.n ≤ 16) :
    Calls Try.prog 93 #[.pointer (some ⟨P, 0, none⟩)] w fun e w' => ∃ v, e = .returned v ∧ w'.ownsRow w.heap.size 3 1 v (miss r.al).length (ints (miss r.al)) ∧ Below w.heap.size w w' := by
  have H := hide h
  have HL := hide h.len
  have c7 := h.cells.2.2.2.2.2.2.2.1
  obtain ⟨n, hn⟩ : ∃ n, n = u.n := ⟨_, rfl⟩
  rw [← hn] at c7 h16
  have HN := hide hn
  clear h hn
  go_enter Try.func93, Try.ntmps93
  go_wp2_with fail
  clear c7
  go_loopw [3, 11] (fun vl vi wr => ∃ (i : Nat), i ≤ n ∧ vi = .int .i64 (i : Int) ∧ Hid (wr.ownsRow w.heap.size 3 1 vl (missL r.al i).length (ints (missL r.al i))) ∧ Hid (Below w.heap.size w wr)) (fun _ vi _ => n - (intOf vi).toNat)
  case atStart => exact ⟨0, Nat.zero_le _, rfl, World.ownsRow_nil _ _ _ _, Below.refl _ _⟩
  case round =>
    obtain ⟨i, hi, rfl, HO, HB⟩ := hrel
    by_cases hin : i < n
    case pos =>
      have hii : (i : Int) < (n : Int) := by omega
      have hlt : i < r.al.length := by rw [HL.out, ← HN.out]; exact hin
      obtain ⟨y0, y1⟩ := (H.out.below HB.out).ans i hlt
      have hl : Hid (missL r.al (i + 1) = if r.al[i].1 = true then missL r.al i else missL r.al i ++ [(i : Int)]) := by
        unfold Hid
        rw [missL_succ, List.getD_eq_getElem?_getD, List.getElem?_eq_getElem hlt, Option.getD_some]
      have hm := missL_len r.al i
      generalize r.al[i].2 = hv at *
      generalize r.al[i].1 = hb at *
      clear hlt
      cases hb with
      | true =>
        go_wp2_with fail
        refine ⟨⟨i + 1, by omega, rfl, ?_, ?_⟩, by simp [intOf]; omega⟩
        · rw [hl.out, if_pos rfl]
          exact own_below HO.out ((Below.refl _ wr).alloc (Nat.le_refl _) _)
        · exact HB.out.alloc HB.out.size _
      | false =>
        have O1 : Hid (((wr.alloc (.cells #[.bool false, .int .i64 hv] 134)).alloc (.cells #[.int .i64 (i : Int)] 3)).ownsRow w.heap.size 3 1 u3 (missL r.al i).length (ints (missL r.al i))) := own_below HO.out (((Below.refl _ wr).alloc (Nat.le_refl _) _).alloc (by simp) _)
        have g1 : ((wr.alloc (.cells #[.bool false, .int .i64 hv] 134)).alloc (.cells #[.int .i64 (i : Int)] 3)).heap[wr.heap.size + 1]? = some (.cells #[.int .i64 (i : Int)] 3) := by
          have := heap_last (wr.alloc (.cells #[.bool false, .int .i64 hv] 134)) (.cells #[.int .i64 (i : Int)] 3)
          rwa [World.size_alloc] at this
        have G1 := hide g1
        have hs : w.heap.size ≤ wr.heap.size := HB.out.size
        clear g1
        go_wp2_with (at_builtin; refine wpList_apI rfl (.tmp 19) (.tmp 21) rfl w.heap.size _ (missL r.al i) rfl O1.out (wr.heap.size + 1) (i : Int) rfl G1.out (by omega) (by simp; omega) ?_; intro v' w' o2 g2)
        refine ⟨⟨i + 1, by omega, rfl, ?_, ?_⟩, by simp [intOf]; omega⟩
        · rw [hl.out, if_neg (by decide), List.length_append]
          exact o2
        · have k1 : Kp w wr non := Kp.of_below HB.out non
          refine ((k1.alloc _).alloc _ |>.trans (Kp.of_grown g2) (fun k hk => ?_)).below
          have := own_ge O1.out hk.symm
          exact Or.inr this
    case neg =>
      obtain rfl : i = n := by omega
      go_wp2_with fail
      go_ret
      refine ⟨_, rfl, ?_, HB.out⟩
      have e : miss r.al = missL r.al i := by unfold miss; rw [HL.out, ← HN.out]
      rw [e]
      exact HO.out
end Go.Proofs.Ytpleakkhbfhdkaa.Cn
namespace Go.Proofs.Ytpleakkhbfhdkaa.Cn
open Go.RowKit
/-- a node of the law's in memory: eight cells at o of the block b; A0: the block as it was -/
def ndV (n : Nd) : Array Value := #[.int .i64 n.cur, .int .i64 n.prev, .int .i64 n.ep, .int .i64 n.sq, .int .i64 n.sw, .int .i64 n.was, .bool n.sick, .bool n.deaf]
structure NdAt (w : World) (b o : Nat) (A0 A : Array Value) (n : Nd) : Prop where
  ob : w.heap[b]? = some (.cells A 108)
  at8 : ∀ j, j < 8 → A[o + j]? = (ndV n)[j]?
  size : A.size = A0.size
  rest : ∀ k, (k < o ∨ o + 8 ≤ k) → A[k]? = A0[k]?
def NdX (w : World) (b o : Nat) (A0 : Array Value) (n : Nd) : Prop := ∃ A, NdAt w b o A0 A n
theorem NdX.cells {w : World} {b o : Nat} {A0 : Array Value} {n : Nd} (h : NdX w b o A0 n) : w.cell? ⟨b, o, none⟩ = some (.int .i64 n.cur) ∧ w.cell? ⟨b, o + 1, none⟩ = some (.int .i64 n.prev) ∧ w.cell? ⟨b, o + 2, none⟩ = some (.int .i64 n.ep) ∧ w.cell? ⟨b, o + 3, none⟩ = some (.int .i64 n.sq) ∧ w.cell? ⟨b, o + 4, none⟩ = some (.int .i64 n.sw) ∧ w.cell? ⟨b, o + 5, none⟩ = some (.int .i64 n.was) ∧ w.cell? ⟨b, o + 6, none⟩ = some (.bool n.sick) ∧ w.cell? ⟨b, o + 7, none⟩ = some (.bool n.deaf) := by
  obtain ⟨A, h⟩ := h
  simp only [cell_row h.ob]
  exact ⟨h.at8 0 (by omega), h.at8 1 (by omega), h.at8 2 (by omega), h.at8 3 (by omega), h.at8 4 (by omega), h.at8 5 (by omega), h.at8 6 (by omega), h.at8 7 (by omega)⟩
theorem NdX.fz {w : World} {b o : Nat} {A0 : Array Value} {n : Nd} (h : NdX w b o A0 n) (i : Nat) : w.frozen? ⟨b, i, none⟩ = false := by
  obtain ⟨A, h⟩ := h
  exact fz_row h.ob i
theorem NdX.keep {w w' : World} {b o : Nat} {A0 : Array Value} {n : Nd} {S : Nat → Prop} (h : NdX w b o A0 n) (hk : Kp w w' S) (hs : ¬ S b) : NdX w' b o A0 n := by
  obtain ⟨A, h⟩ := h
  exact ⟨A, (hk.block b (blk_lt h.ob) hs).trans h.ob, h.at8, h.size, h.rest⟩
theorem NdX.set {w : World} {b o : Nat} {A0 : Array Value} {n : Nd} (h : NdX w b o A0 n) (n' : Nd) (j : Nat) (v : Value) (hj : j < 8) (hv : (ndV n')[j]? = some v) (hr : ∀ i, i < 8 → i ≠ j → (ndV n')[i]? = (ndV n)[i]?) : NdX (w.setCell ⟨b, o + j, none⟩ v) b o A0 n' := by
  obtain ⟨A, h⟩ := h
  have hlt : o + j < A.size := by
    have := h.at8 j hj
    rcases Nat.lt_or_ge (o + j) A.size with a | a
    · exact a
    · rw [Array.getElem?_eq_none a] at this
      have h8 : (ndV n).size = 8 := rfl
      rw [Array.getElem?_eq_getElem (by omega)] at this
      exact absurd this (by simp)
  refine ⟨A.setIfInBounds (o + j) v, heap_setCell _ _ _ _ _ _ _ h.ob, fun i hi => ?_, by simpa using h.size, fun k hk => ?_⟩
  · by_cases e : i = j
    · subst e
      rw [hv, Array.getElem?_setIfInBounds_self_of_lt hlt]
    · rw [Array.getElem?_setIfInBounds_ne (by omega), hr i hi e]
      exact h.at8 i hi
  · rw [Array.getElem?_setIfInBounds_ne (by omega)]
    exact h.rest k hk
theorem rest8 {n n' : Nd} {j : Nat} (P : ∀ i : Fin 8, i.val ≠ j → (ndV n')[i.val]? = (ndV n)[i.val]?) : ∀ i, i < 8 → i ≠ j → (ndV n')[i]? = (ndV n)[i]? := fun i hi hn => P ⟨i, hi⟩ hn
end Go.Proofs.Ytpleakkhbfhdkaa.Cn
