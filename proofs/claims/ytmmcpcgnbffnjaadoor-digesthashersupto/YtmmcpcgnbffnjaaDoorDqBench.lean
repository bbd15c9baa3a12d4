import Derived.Test.YtmmcpcgnbffnjaaDoorDqNone
namespace Go.Proofs.YtmmcpcgnbffnjaaDoor
open Go.RowKit
abbrev BF := Nat → Option (Nat × ByteArray)
def cm (f : BF) (p : Nat) : ByteArray := match f p with
  | some x => x.2
  | none => ⟨#[]⟩
def bcell (f : BF) (k : Nat) : Value := if k < 4 then .pointer ((f k).map fun x => (⟨x.1, 0, none⟩ : Addr)) else if k < 8 then .string (cm f (k - 4)) else .bool (f (k - 8)).isSome
def upd (f : BF) (p : Nat) (x : Nat × ByteArray) : BF := fun q => if q = p then some x else f q
theorem upd_same (f : BF) (p : Nat) (x : Nat × ByteArray) : upd f p x p = some x := by unfold upd; rw [if_pos rfl]
theorem upd_other (f : BF) {p q : Nat} (x : Nat × ByteArray) (h : q ≠ p) : upd f p x q = f q := by unfold upd; rw [if_neg h]
theorem bcell_own (f : BF) {p : Nat} (h : p < 4) : bcell f p = .pointer ((f p).map fun x => (⟨x.1, 0, none⟩ : Addr)) := by unfold bcell; rw [if_pos h]
theorem bcell_came (f : BF) {p : Nat} (h : p < 4) : bcell f (4 + p) = .string (cm f p) := by unfold bcell; rw [if_neg (by omega), if_pos (by omega), show 4 + p - 4 = p by omega]
theorem bcell_there (f : BF) {p : Nat} (_ : p < 4) : bcell f (8 + p) = .bool (f p).isSome := by unfold bcell; rw [if_neg (by omega), if_neg (by omega), show 8 + p - 8 = p by omega]
/-- twelve cells of a bench -/
def CB (w : World) (bb : Nat) (c : Nat → Value) : Prop := ∀ k, k < 12 → w.cell? ⟨bb, k, none⟩ = some (c k) ∧ w.frozen? ⟨bb, k, none⟩ = false
theorem CB.set {w : World} {bb : Nat} {c : Nat → Value} (h : CB w bb c) {k : Nat} (hk : k < 12) (u : Value) : CB (w.setCell ⟨bb, k, none⟩ u) bb (fun j => if j = k then u else c j) := by
  intro j hj
  refine ⟨?_, by rw [World.frozen?_setCell]; exact (h j hj).2⟩
  by_cases e : j = k
  · subst e
    simp only [if_true]
    exact World.cell?_setCell_same _ _ _ (h j hj).1
  · simp only
    rw [if_neg e, World.cell?_setCell_other _ _ _ _ (by intro q; simp only [Addr.mk.injEq, true_and, and_true] at q; exact e q.symm)]
    exact (h j hj).1
theorem CB.below {w w' : World} {bb B : Nat} {c : Nat → Value} (h : CB w bb c) (hb : Below B w w') (hl : bb < B) : CB w' bb c := fun k hk => by
  rw [hb.cell (by exact hl), hb.frozen (by exact hl)]; exact h k hk
theorem CB.grown {w w' : World} {bb h' : Nat} {c : Nat → Value} (h : CB w bb c) (hg : w.grownBy w' (some h')) (hl : bb < w.heap.size) (hne : bb ≠ h') : CB w' bb c := fun k hk => by
  rw [hg.cell_far ⟨bb, k, none⟩ hl (by simpa using hne), hg.frozen_far ⟨bb, k, none⟩ hl (by simpa using hne)]; exact h k hk
theorem CB.congr {w : World} {bb : Nat} {c c' : Nat → Value} (h : CB w bb c) (e : ∀ k, k < 12 → c k = c' k) : CB w bb c' := fun k hk => by rw [← e k hk]; exact h k hk
/-- the Hashers of a bench -/
def HO (w : World) (B : Nat) (f : BF) : Prop := (∀ p, p < 4 → ∀ x, f p = some x → B ≤ x.1 ∧ HS x.1 w x.2.data.toList) ∧ ∀ p q, p < 4 → q < 4 → p ≠ q → ∀ x y, f p = some x → f q = some y → x.1 ≠ y.1
def Bench (w : World) (B bb : Nat) (f : BF) : Prop := 3 ≤ bb ∧ bb < B ∧ bb < w.heap.size ∧ B ≤ w.heap.size ∧ CB w bb (bcell f) ∧ HO w B f
theorem HO.grown {w w' : World} {B b' : Nat} {f : BF} (h : HO w B f) (hg : w.grownBy w' (some b')) (hlo : b' < B) (h3 : 3 ≤ b') : HO w' B f := by
  refine ⟨fun p hp x hx => ?_, h.2⟩
  obtain ⟨a, b⟩ := h.1 p hp x hx
  exact ⟨a, b.grown hg (by omega) h3⟩
theorem HO.below {w w' : World} {B : Nat} {f : BF} (h : HO w B f) (hb : Below w.heap.size w w') : HO w' B f := by
  refine ⟨fun p hp x hx => ?_, h.2⟩
  obtain ⟨a, b⟩ := h.1 p hp x hx
  exact ⟨a, b.below hb⟩
theorem grown_cell (w : World) (b i : Nat) (u : Value) : w.grownBy (w.setCell ⟨b, i, none⟩ u) (some b) := grown_setCells (grown_refl w (some b)) [u] i
theorem Bench.below {w w' : World} {B bb : Nat} {f : BF} (h : Bench w B bb f) (hb : Below w.heap.size w w') : Bench w' B bb f := by
  obtain ⟨h1, h2, h3, h4, h5, h6⟩ := h
  exact ⟨h1, h2, Nat.lt_of_lt_of_le h3 hb.size, Nat.le_trans h4 hb.size, h5.below hb h3, h6.below hb⟩
/-- a new Hasher at a place -/
theorem HO.put {w : World} {B : Nat} {f : BF} {p hb : Nat} {s : ByteArray} (h : HO w B f) (hp : p < 4) (hB : B ≤ hb) (hs : HS hb w s.data.toList) (hne : ∀ q, q < 4 → q ≠ p → ∀ x, f q = some x → x.1 ≠ hb) : HO w B (upd f p (hb, s)) := by
  refine ⟨fun q hq x hx => ?_, fun a b ha hb' hab x y hx hy => ?_⟩
  · by_cases e : q = p
    · subst e
      rw [upd_same] at hx
      injection hx with hx
      subst hx
      exact ⟨hB, hs⟩
    · rw [upd_other f _ e] at hx
      exact h.1 q hq x hx
  · by_cases e : a = p
    · subst e
      rw [upd_same] at hx
      injection hx with hx
      subst hx
      rw [upd_other f _ (fun q => hab q.symm)] at hy
      exact (hne b hb' (fun q => hab q.symm) y hy).symm
    · by_cases e2 : b = p
      · subst e2
        rw [upd_same] at hy
        injection hy with hy
        subst hy
        rw [upd_other f _ e] at hx
        exact hne a ha e x hx
      · rw [upd_other f _ e] at hx
        rw [upd_other f _ e2] at hy
        exact h.2 a b ha hb' hab x y hx hy
/-- a Hasher at its place has got more -/
theorem HO.write {w w1 w2 : World} {B : Nat} {f : BF} {p h : Nat} {s t : ByteArray} (ho : HO w B f) (hp : p < 4) (hf : f p = some (h, s)) (hg : w1.grownBy w2 (some h)) (hs : HS h w2 t.data.toList) (h3 : 3 ≤ h) (hw : Below w.heap.size w w1 := by exact (Below.refl _ _).drew) : HO w2 B (upd f p (h, t)) := by
  refine ⟨fun q hq x hx => ?_, fun a b ha hb' hab x y hx hy => ?_⟩
  · by_cases e : q = p
    · subst e
      rw [upd_same] at hx
      injection hx with hx
      subst hx
      exact ⟨(ho.1 q hq (h, s) hf).1, hs⟩
    · rw [upd_other f _ e] at hx
      obtain ⟨u, v⟩ := ho.1 q hq x hx
      exact ⟨u, (v.below hw).grown hg (ho.2 q p hq hp e x (h, s) hx hf) h3⟩
  · by_cases e : a = p
    · subst e
      rw [upd_same] at hx
      injection hx with hx
      subst hx
      rw [upd_other f _ (fun q => hab q.symm)] at hy
      exact ho.2 a b ha hb' hab (h, s) y hf hy
    · by_cases e2 : b = p
      · subst e2
        rw [upd_same] at hy
        injection hy with hy
        subst hy
        rw [upd_other f _ e] at hx
        exact ho.2 a b ha hb' hab x (h, s) hx hf
      · rw [upd_other f _ e] at hx
        rw [upd_other f _ e2] at hy
        exact ho.2 a b ha hb' hab x y hx hy
theorem cells_new (f : BF) {p : Nat} (hp : p < 4) (hb : Nat) : ∀ k, k < 12 → (if k = 8 + p then Value.bool true else if k = 4 + p then .string ⟨#[]⟩ else if k = p then .pointer (some ⟨hb, 0, none⟩) else bcell f k) = bcell (upd f p (hb, ⟨#[]⟩)) k := by
  intro k hk
  by_cases k1 : k < 4
  · rw [if_neg (by omega), if_neg (by omega), bcell_own _ k1, bcell_own _ k1]
    by_cases e : k = p
    · subst e; rw [if_pos rfl, upd_same]; rfl
    · rw [if_neg e, upd_other f _ e]
  · by_cases k2 : k < 8
    · obtain ⟨j, rfl⟩ : ∃ j, k = 4 + j := ⟨k - 4, by omega⟩
      rw [if_neg (by omega), bcell_came _ (by omega), bcell_came _ (by omega)]
      by_cases e : j = p
      · subst e; rw [if_pos rfl]; unfold cm; rw [upd_same]
      · rw [if_neg (by omega), if_neg (by omega)]; unfold cm; rw [upd_other f _ e]
    · obtain ⟨j, rfl⟩ : ∃ j, k = 8 + j := ⟨k - 8, by omega⟩
      rw [bcell_there _ (by omega), bcell_there _ (by omega)]
      by_cases e : j = p
      · subst e; rw [if_pos rfl, upd_same]; rfl
      · rw [if_neg (by omega), if_neg (by omega), if_neg (by omega), upd_other f _ e]
theorem cells_wr (f : BF) {p hb : Nat} {s t : ByteArray} (hp : p < 4) (hf : f p = some (hb, s)) : ∀ k, k < 12 → (if k = 4 + p then Value.string t else bcell f k) = bcell (upd f p (hb, t)) k := by
  intro k hk
  by_cases k1 : k < 4
  · rw [if_neg (by omega), bcell_own _ k1, bcell_own _ k1]
    by_cases e : k = p
    · subst e; rw [upd_same, hf]; rfl
    · rw [upd_other f _ e]
  · by_cases k2 : k < 8
    · obtain ⟨j, rfl⟩ : ∃ j, k = 4 + j := ⟨k - 4, by omega⟩
      rw [bcell_came _ (by omega), bcell_came _ (by omega)]
      by_cases e : j = p
      · subst e; rw [if_pos rfl]; unfold cm; rw [upd_same]
      · rw [if_neg (by omega)]; unfold cm; rw [upd_other f _ e]
    · obtain ⟨j, rfl⟩ : ∃ j, k = 8 + j := ⟨k - 8, by omega⟩
      rw [if_neg (by omega), bcell_there _ (by omega), bcell_there _ (by omega)]
      by_cases e : j = p
      · subst e; rw [upd_same, hf]; rfl
      · rw [upd_other f _ e]
end Go.Proofs.YtmmcpcgnbffnjaaDoor
