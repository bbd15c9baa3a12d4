import Derived.Test.YtjibhdcnibgegaaRxIndex
namespace Go.Proofs.Ytjibhdcnibgegaa
open Go.RowKit
abbrev GR := ByteArray × List KV
/-- the groups that a chunk's first n entries say -/
def decAt (m : Nat) (x d : ByteArray) : Nat → Option (List GR × Nat)
  | 0 => some ([], 0)
  | n + 1 => match decAt m x d n with
    | none => none
    | some (l, q) => if errL (spL d q) = 0 ∧ rdeO m x n = q then some (l ++ [(rdeH m x n, spL d q)], spN d q) else none
theorem dec_step {m : Nat} {x d : ByteArray} {n : Nat} {l : List GR} {q : Nat} (h : decAt m x d n = some (l, q)) (h1 : errL (spL d q) = 0) (h2 : rdeO m x n = q) : decAt m x d (n + 1) = some (l ++ [(rdeH m x n, spL d q)], spN d q) := by
  rw [decAt, h]; simp only; rw [if_pos ⟨h1, h2⟩]
theorem dec_stop {m : Nat} {x d : ByteArray} {n : Nat} {l : List GR} {q : Nat} (h : decAt m x d n = some (l, q)) (h1 : ¬ (errL (spL d q) = 0 ∧ rdeO m x n = q)) : decAt m x d (n + 1) = none := by
  rw [decAt, h]; simp only; rw [if_neg h1]
theorem dec_none {m : Nat} {x d : ByteArray} {n : Nat} (h : decAt m x d n = none) (t : Nat) : decAt m x d (n + t) = none := by
  induction t with
  | zero => exact h
  | succ t ih => rw [show n + (t + 1) = n + t + 1 by omega, decAt, ih]
theorem sp_le {d : ByteArray} {q : Nat} (h : errL (spL d q) = 0) : q + 2 ≤ spN d q ∧ spN d q ≤ d.size := by
  cases hs : spellAt d q with
  | none =>
    rw [(spL_none hs).1] at h
    have : errL [] = 36 := rfl
    omega
  | some y =>
    obtain ⟨l, r⟩ := y
    rw [(spL_some hs).2]
    exact ⟨(spell_rec hs).1, (spell_rec hs).2.1⟩
theorem dec_le {m : Nat} {x d : ByteArray} : ∀ n l q, decAt m x d n = some (l, q) → q ≤ d.size ∧ l.length = n := by
  intro n
  induction n with
  | zero => intro l q h; simp [decAt] at h; obtain ⟨rfl, rfl⟩ := h; simp
  | succ n ih =>
    intro l q h
    rw [decAt] at h
    split at h
    · cases h
    · rename_i l' q' h'
      by_cases hc : errL (spL d q') = 0 ∧ rdeO m x n = q'
      · rw [if_pos hc] at h
        simp only [Option.some.injEq, Prod.mk.injEq] at h
        obtain ⟨rfl, rfl⟩ := h
        exact ⟨(sp_le hc.1).2, by simp [(ih _ _ h').2]⟩
      · rw [if_neg hc] at h; cases h
/-- what both Decodes answer -/
def dcOk (m : Int) (x d : ByteArray) : Option (List GR) := match decAt m.toNat x d (x.size / (m.toNat + 4)) with
  | some (l, q) => if q = d.size ∧ d.size ≤ 65536 then some l else none
  | none => none
def dcE (m : Int) (x d : ByteArray) : Int := if riE m x = 0 then if (dcOk m x d).isSome then 0 else 39 else riE m x
def dcG (m : Int) (x d : ByteArray) : List GR := if riE m x = 0 then (dcOk m x d).getD [] else []
theorem dc_index {m : Int} {x d : ByteArray} (h : riE m x ≠ 0) : dcE m x d = riE m x ∧ dcG m x d = [] := by
  unfold dcE dcG; rw [if_neg h, if_neg h]; exact ⟨rfl, rfl⟩
theorem dc_no {m : Int} {x d : ByteArray} (h : riE m x = 0) (hn : dcOk m x d = none) : dcE m x d = 39 ∧ dcG m x d = [] := by
  unfold dcE dcG; rw [if_pos h, if_pos h, hn]; exact ⟨rfl, rfl⟩
theorem dc_yes {m : Int} {x d : ByteArray} {l : List GR} (h : riE m x = 0) (hn : dcOk m x d = some l) : dcE m x d = 0 ∧ dcG m x d = l := by
  unfold dcE dcG; rw [if_pos h, if_pos h, hn]; exact ⟨rfl, rfl⟩
theorem ok_big {m : Int} {x d : ByteArray} (h : 65536 < d.size) : dcOk m x d = none := by
  unfold dcOk
  split
  · rw [if_neg (fun k => by omega)]
  · rfl
theorem ok_none {m : Int} {x d : ByteArray} (h : decAt m.toNat x d (x.size / (m.toNat + 4)) = none) : dcOk m x d = none := by
  unfold dcOk; rw [h]
theorem ok_end {m : Int} {x d : ByteArray} {l : List GR} {q : Nat} (h : decAt m.toNat x d (x.size / (m.toNat + 4)) = some (l, q)) (hq : q ≠ d.size) : dcOk m x d = none := by
  unfold dcOk; rw [h]; simp only; rw [if_neg (fun k => hq k.1)]
theorem ok_yes {m : Int} {x d : ByteArray} {l : List GR} (h : decAt m.toNat x d (x.size / (m.toNat + 4)) = some (l, d.size)) (hd : d.size ≤ 65536) : dcOk m x d = some l := by
  unfold dcOk; rw [h]; show (if d.size = d.size ∧ d.size ≤ 65536 then some l else none) = some l; rw [if_pos ⟨rfl, hd⟩]
/-- groups in memory -/
def gcell (ts : List (GR × Value)) : List Value := ts.flatMap fun t => [.string t.1.1, t.2]
theorem gcell_append (a b : List (GR × Value)) : gcell (a ++ b) = gcell a ++ gcell b := by simp [gcell]
def GroupsAt (w : World) (base : Nat) (v : Value) (gs : List GR) : Prop := ∃ ts : List (GR × Value), ts.map Prod.fst = gs ∧ w.ownsRow base 88 2 v ts.length (gcell ts) ∧ ∀ t ∈ ts, w.ownsRow base 81 2 t.2 t.1.2.length (pc t.1.2)
theorem GroupsAt.nil (w : World) (base : Nat) : GroupsAt w base (.slice none 0 0) [] := ⟨[], rfl, World.ownsRow_nil _ _ _ _, fun t ht => by cases ht⟩
theorem GroupsAt.below {w w' : World} {base : Nat} {v : Value} {gs : List GR} (h : GroupsAt w base v gs) (hb : Below w.heap.size w w') : GroupsAt w' base v gs := by
  obtain ⟨ts, h1, h2, h3⟩ := h
  exact ⟨ts, h1, own_below h2 hb, fun t ht => own_below (h3 t ht) hb⟩
theorem own_type {w : World} {b1 b2 e1 e2 s1 s2 n1 n2 : Nat} {v1 v2 : Value} {x1 x2 : List Value} (h1 : w.ownsRow b1 e1 s1 v1 n1 x1) (h2 : w.ownsRow b2 e2 s2 v2 n2 x2) (hne : e1 ≠ e2) : v1.ownBlock = none ∨ v1.ownBlock ≠ v2.ownBlock := by
  rcases h1.2 with ⟨rfl, _⟩ | ⟨g1, c1, u1, rfl, _, k1, _⟩
  · exact .inl rfl
  · right
    rcases h2.2 with ⟨rfl, _⟩ | ⟨g2, c2, u2, rfl, _, k2, _⟩
    · intro h; cases h
    · intro h
      simp only [Value.ownBlock, Option.some.injEq] at h
      subst h
      rw [k1] at k2
      simp only [Option.some.injEq, Obj.cells.injEq] at k2
      exact hne k2.2.1
theorem row_type {w : World} {b1 b2 e1 e2 s1 s2 n1 n2 : Nat} {v1 v2 : Value} {x1 x2 : List Value} {w' : World} (h1 : w.ownsRow b1 e1 s1 v1 n1 x1) (h2 : w.ownsRow b2 e2 s2 v2 n2 x2) (hne : e1 ≠ e2) (hg : w.grownBy w' v2.ownBlock) : w'.ownsRow b1 e1 s1 v1 n1 x1 := h1.kept hg (own_type h1 h2 hne)
theorem own_base {w : World} {b1 b2 e s n : Nat} {v : Value} {x : List Value} (h : w.ownsRow b1 e s v n x) (hb : b2 ≤ b1) : w.ownsRow b2 e s v n x := by
  refine ⟨h.1, ?_⟩
  rcases h.2 with h0 | ⟨g, c, u, h1, h2, h3⟩
  · exact .inl h0
  · exact .inr ⟨g, c, u, h1, Nat.le_trans hb h2, h3⟩
theorem GroupsAt.base {w : World} {b1 b2 : Nat} {v : Value} {gs : List GR} (h : GroupsAt w b1 v gs) (hb : b2 ≤ b1) : GroupsAt w b2 v gs := by
  obtain ⟨ts, h1, h2, h3⟩ := h
  exact ⟨ts, h1, own_base h2 hb, fun t ht => own_base (h3 t ht) hb⟩
theorem ri_inv {m : Int} {x : ByteArray} (h : riE m x = 0) : (1 ≤ m ∧ m ≤ 16) ∧ x.size % (m.toNat + 4) = 0 ∧ allUp m.toNat x = true ∧ riL m x = ents m.toNat x (x.size / (m.toNat + 4)) := by
  by_cases hm : 1 ≤ m ∧ m ≤ 16
  · by_cases hx : x.size % (m.toNat + 4) = 0 ∧ allUp m.toNat x = true
    · exact ⟨hm, hx.1, hx.2, (ri_yes hm hx).2⟩
    · rw [(ri_no hm hx).1] at h; omega
  · rw [(ri_width hm).1] at h; omega
theorem own_ents {w : World} {base : Nat} {v : Value} {n : Nat} {ps : List EN} (hn : ps.length = n) (h : w.ownsRow base 75 2 v n (ec ps)) : ∃ ao g cap, v = .slice ao n cap ∧ (0 < n → ao = some ⟨g, 0, none⟩) ∧ (0 < n → g < w.heap.size) ∧ LiesE g 0 w ps := by
  rcases h.2 with ⟨rfl, h0⟩ | ⟨g, cap, cur, rfl, hg, hblk, _⟩
  · rw [h0]
    exact ⟨none, 0, 0, rfl, fun k => by omega, fun k => by omega, fun i hi => by omega⟩
  · exact ⟨some ⟨g, 0, none⟩, g, cap, rfl, fun _ => rfl, fun _ => row_lt h, row_liesE h (by omega)⟩
theorem LiesE.below {b off : Nat} {w w' : World} {ps : List EN} (h : LiesE b off w ps) (hb : b < w.heap.size) (hw : Below w.heap.size w w') : LiesE b off w' ps := fun i hi => by
  rw [hw.cell (by exact hb), hw.cell (by exact hb)]; exact h i hi
theorem infoG : (Try.prog.info? 88).map (fun i => (i.zero, i.size, i.bytes)) = some (some (.agg #[.string ⟨#[]⟩, .slice none 0 0]), 2, 40) := by kernel_rfl
theorem g_two (X : ByteArray) (L : List KV) (v : Value) : gcell [((X, L), v)] = (#[.string X, v] : Array Value).toList := rfl
theorem cell_grp (w : World) (X : ByteArray) (L : List KV) (v : Value) : ∀ j u, (gcell [((X, L), v)])[j]? = some u → (w.alloc (.cells #[.string X, v] 88)).cell? ((⟨w.heap.size, 0, none⟩ : Addr).add j) = some u := by
  rw [g_two]
  exact (World.ownsRow_lit (base := 0) (e := 88) (size := 2) w _ 1 (by omega) (by unfold maxLen; omega) rfl).cells (g := w.heap.size) rfl
theorem g_one_len (X : ByteArray) (L : List KV) (v : Value) : (gcell [((X, L), v)]).length = 1 * 2 := rfl
theorem g_one (X : ByteArray) (L : List KV) (v : Value) (hv : v.oneCell' = true) : ∀ u ∈ gcell [((X, L), v)], u.oneCell' = true := by
  intro u hu
  simp [gcell] at hu
  rcases hu with rfl | rfl
  · rfl
  · exact hv
end Go.Proofs.Ytjibhdcnibgegaa
