import Derived.Test.YtnphdbmacccblabMoLet
namespace Go.Proofs.Ytnphdbmacccblab
open Go.RowKit
theorem ltc_set (L : List Lt) (i : Nat) (x : Lt) : ((((ltc L).set (i * 4) (.int .i64 x.id)).set (i * 4 + 1) (.int .i64 x.fr)).set (i * 4 + 2) (.int .i64 x.td)).set (i * 4 + 3) (.string x.tx) = ltc (L.set i x) := by
  induction L generalizing i with
  | nil => rfl
  | cons a r ih =>
    cases i with
    | zero => rfl
    | succ i =>
      have := ih i
      unfold ltc at *
      simp only [List.flatMap_cons, List.set_cons_succ, Lt.cs, List.cons_append, List.nil_append] at *
      rw [show (i + 1) * 4 = i * 4 + 4 by omega, show i * 4 + 4 + 1 = (i * 4 + 1) + 4 by omega, show i * 4 + 4 + 2 = (i * 4 + 2) + 4 by omega, show i * 4 + 4 + 3 = (i * 4 + 3) + 4 by omega]
      simp only [List.set_cons_succ]
      rw [this]
/-- what is held of an answer: the list, the list with more behind it, and what they must be -/
structure Hd where
  vL : Value
  vM : Value
  vP : Value
  vQ : Value
  L : List Lt
  M : List Lt
def Hd.cs (x : Hd) : List Value := [x.vL, x.vM, x.vP, x.vQ]
def hdc (L : List Hd) : List Value := L.flatMap Hd.cs
theorem hdc_len (L : List Hd) : (hdc L).length = L.length * 4 := by
  induction L with
  | nil => rfl
  | cons a r ih =>
    unfold hdc at *
    simp only [List.flatMap_cons, List.length_append, List.length_cons, ih, Hd.cs, List.length_nil]
    omega
theorem hdc_append (a b : List Hd) : hdc (a ++ b) = hdc a ++ hdc b := List.flatMap_append
theorem hdc_at (L : List Hd) (q : Nat) (h : q < L.length) : (hdc L)[q * 4]? = some L[q].vL ∧ (hdc L)[q * 4 + 1]? = some L[q].vM ∧ (hdc L)[q * 4 + 2]? = some L[q].vP ∧ (hdc L)[q * 4 + 3]? = some L[q].vQ := by
  induction L generalizing q with
  | nil => simp at h
  | cons a r ih =>
    cases q with
    | zero => exact ⟨rfl, rfl, rfl, rfl⟩
    | succ q =>
      have h' : q < r.length := by simpa using h
      obtain ⟨e1, e2, e3, e4⟩ := ih q h'
      unfold hdc at *
      simp only [List.flatMap_cons, List.getElem_cons_succ]
      rw [show (q + 1) * 4 = q * 4 + 4 by omega, show q * 4 + 4 + 1 = (q * 4 + 1) + 4 by omega, show q * 4 + 4 + 2 = (q * 4 + 2) + 4 by omega, show q * 4 + 4 + 3 = (q * 4 + 3) + 4 by omega]
      exact ⟨e1, e2, e3, e4⟩
theorem hdc_set (L : List Hd) (i : Nat) (x : Hd) : ((((hdc L).set (i * 4) x.vL).set (i * 4 + 1) x.vM).set (i * 4 + 2) x.vP).set (i * 4 + 3) x.vQ = hdc (L.set i x) := by
  induction L generalizing i with
  | nil => rfl
  | cons a r ih =>
    cases i with
    | zero => rfl
    | succ i =>
      have := ih i
      unfold hdc at *
      simp only [List.flatMap_cons, List.set_cons_succ, Hd.cs, List.cons_append, List.nil_append] at *
      rw [show (i + 1) * 4 = i * 4 + 4 by omega, show i * 4 + 4 + 1 = (i * 4 + 1) + 4 by omega, show i * 4 + 4 + 2 = (i * 4 + 2) + 4 by omega, show i * 4 + 4 + 3 = (i * 4 + 3) + 4 by omega]
      simp only [List.set_cons_succ]
      rw [this]
/-- four cells written in a block of letters -/
def put4 (w : World) (G i : Nat) (a b c d : Value) : World := (((w.setCell ⟨G, i * 4, none⟩ a).setCell ⟨G, i * 4 + 1, none⟩ b).setCell ⟨G, i * 4 + 2, none⟩ c).setCell ⟨G, i * 4 + 3, none⟩ d
theorem put4_kp (w : World) (G i : Nat) (a b c d : Value) : Kp w (put4 w G i a b c d) (fun k => k = G) :=
  ((((Kp.refl w (fun k => k = G)).set (Or.inl rfl) _ _).set (Or.inl rfl) _ _).set (Or.inl rfl) _ _).set (Or.inl rfl) _ _
theorem put4_lt {w : World} {G : Nat} {X : List Lt} {t : TypeId} {fr : Nat × Nat} (h : w.heap[G]? = some (.cells (ltc X).toArray t fr)) (i : Nat) (x : Lt) : (put4 w G i (.int .i64 x.id) (.int .i64 x.fr) (.int .i64 x.td) (.string x.tx)).heap[G]? = some (.cells (ltc (X.set i x)).toArray t fr) := by
  unfold put4
  rw [← ltc_set]
  have := heap_setCell _ G (i * 4 + 3) (.string x.tx) _ _ _ (heap_setCell _ G (i * 4 + 2) (.int .i64 x.td) _ _ _ (heap_setCell _ G (i * 4 + 1) (.int .i64 x.fr) _ _ _ (heap_setCell _ G (i * 4) (.int .i64 x.id) _ _ _ h)))
  simpa using this
/-- a list of letters that fills its block, or nothing -/
def Ls (w : World) (T : Nat → Prop) (v : Value) (L : List Lt) : Prop := (v = .slice none 0 0 ∧ L = []) ∨ ∃ G, v = .slice (some ⟨G, 0, none⟩) L.length L.length ∧ LsAt w G L ∧ T G
theorem Ls.ll {w : World} {T : Nat → Prop} {v : Value} {L : List Lt} (h : Ls w T v L) : LL w v L := by
  rcases h with ⟨rfl, rfl⟩ | ⟨G, rfl, h1, h2⟩
  · exact LL.of_own (base := 0) (World.ownsRow_nil _ _ _ _)
  · clear h2
    refine ⟨_, G, _, rfl, fun _ => ⟨rfl, blk_lt h1⟩, fun q hq => ?_⟩
    obtain ⟨e1, e2, e3, e4⟩ := ltc_at L q hq
    have cell : ∀ j u, (ltc L)[j]? = some u → w.cell? ⟨G, j, none⟩ = some u := fun j u hu => by
      unfold World.cell?
      rw [h1]
      simpa using hu
    exact ⟨cell _ _ e1, cell _ _ e2, cell _ _ e3, cell _ _ e4⟩
theorem Ls.kp {w w' : World} {T S : Nat → Prop} {v : Value} {L : List Lt} (h : Ls w T v L) (hk : Kp w w' S) (hd : ∀ k, T k → ¬ S k) : Ls w' T v L := by
  rcases h with h | ⟨G, h0, h1, h2⟩
  · exact Or.inl h
  · exact Or.inr ⟨G, h0, (hk.block G (blk_lt h1) (hd G h2)).trans h1, h2⟩
theorem Ls.mono {w : World} {T T' : Nat → Prop} {v : Value} {L : List Lt} (h : Ls w T v L) (hd : ∀ k, T k → T' k) : Ls w T' v L := by
  rcases h with h | ⟨G, h0, h1, h2⟩
  · exact Or.inl h
  · exact Or.inr ⟨G, h0, h1, hd G h2⟩
theorem own_base {w : World} {base e sz n : Nat} {v : Value} {xs : List Value} (h : w.ownsRow base e sz v n xs) : w.ownsRow 0 e sz v n xs :=
  ⟨h.1, h.2.imp id fun ⟨g, cap, cur, h1, _, h3⟩ => ⟨g, cap, cur, h1, Nat.zero_le _, h3⟩⟩
/-- a list of letters of one's own -/
def Rw (w : World) (T : Nat → Prop) (v : Value) (L : List Lt) : Prop := w.ownsRow 0 53 4 v L.length (ltc L) ∧ ∀ k, v.ownBlock = some k → T k
theorem Rw.ll {w : World} {T : Nat → Prop} {v : Value} {L : List Lt} (h : Rw w T v L) : LL w v L := LL.of_own h.1
theorem Rw.kp {w w' : World} {T S : Nat → Prop} {v : Value} {L : List Lt} (h : Rw w T v L) (hk : Kp w w' S) (hd : ∀ k, T k → ¬ S k) : Rw w' T v L := ⟨own_kp h.1 hk (fun k e => hd k (h.2 k e)), h.2⟩
theorem Rw.mono {w : World} {T T' : Nat → Prop} {v : Value} {L : List Lt} (h : Rw w T v L) (hd : ∀ k, T k → T' k) : Rw w T' v L := ⟨h.1, fun k e => hd k (h.2 k e)⟩
theorem Rw.nil (w : World) (T : Nat → Prop) : Rw w T (.slice none 0 0) [] := ⟨World.ownsRow_nil _ _ _ _, fun k e => by cases e⟩
theorem Rw.of {w : World} {base : Nat} {T : Nat → Prop} {v : Value} {L : List Lt} (h : w.ownsRow base 53 4 v L.length (ltc L)) (hT : ∀ k, base ≤ k → k < w.heap.size → T k) : Rw w T v L :=
  ⟨own_base h, fun k e => hT k (h.lt k e).1 (by obtain ⟨cur, hc⟩ := own_blk h e; exact blk_lt hc)⟩
/-- one that is held, with its blocks -/
structure HdAt (w : World) (T : Nat → Prop) (h : Hd) : Prop where
  l : Ls w T h.vL h.L
  m : Rw w T h.vM h.M
  p : Rw w T h.vP h.L
  q : Rw w T h.vQ h.M
  ll : h.L.length ≤ 1024
  lm : h.M.length ≤ 1088
theorem HdAt.kp {w w' : World} {T S : Nat → Prop} {x : Hd} (h : HdAt w T x) (hk : Kp w w' S) (hd : ∀ k, T k → ¬ S k) : HdAt w' T x := ⟨h.l.kp hk hd, h.m.kp hk hd, h.p.kp hk hd, h.q.kp hk hd, h.ll, h.lm⟩
theorem HdAt.mono {w : World} {T T' : Nat → Prop} {x : Hd} (h : HdAt w T x) (hd : ∀ k, T k → T' k) : HdAt w T' x := ⟨h.l.mono hd, h.m.mono hd, h.p.mono hd, h.q.mono hd, h.ll, h.lm⟩
end Go.Proofs.Ytnphdbmacccblab
