import Derived.Test.YtnphdbmacccblabMoBook
import Derived.Test.YtnphdbmacccblabMbUp
namespace Go.Proofs.Ytnphdbmacccblab
open Go.RowKit
theorem Bn.fb {w : World} {F : Nat → Prop} {B m : Nat} (h : Bn w F B m) : ∀ k, F k → k < w.heap.size := by
  obtain ⟨p0, p1, q0, q1, S0, S1, a1, a2, a3, a4, a5, a6, a7⟩ := h
  exact a7
/-- a bench and a book that is apart from it -/
structure Ow (w0 wr : World) (B m : Nat) (v : Value) (hs : List Hd) : Prop where
  ex : ∃ F G, Bn wr F B m ∧ Bk wr G v hs ∧ (∀ k, G k → F k ∧ w0.heap.size ≤ k) ∧ (∀ k, k < w0.heap.size → F k)
  bl : Below w0.heap.size w0 wr
theorem Ow.below {w0 wr w' : World} {B m : Nat} {v : Value} {hs : List Hd} (h : Ow w0 wr B m v hs) (hb : Below wr.heap.size wr w') : Ow w0 w' B m v hs := by
  obtain ⟨F, G, h1, h2, h3, h4⟩ := h.ex
  exact ⟨⟨F, G, h1.below hb, h2.fr (Fr.of_below G hb), h3, h4⟩, h.bl.trans (hb.mono h.bl.size)⟩
theorem Ow.up {w0 wr : World} {B m m' : Nat} {v : Value} {hs : List Hd} (h : Ow w0 wr B m v hs) (hm : m ≤ m') : Ow w0 wr B m' v hs := by
  obtain ⟨F, G, h1, h2, h3, h4⟩ := h.ex
  exact ⟨⟨F, G, h1.mono hm, h2, h3, h4⟩, h.bl⟩
theorem Ow.sl {w0 wr : World} {B m : Nat} {v : Value} {hs : List Hd} (h : Ow w0 wr B m v hs) : ∃ ba cap, v = .slice ba hs.length cap := by
  obtain ⟨F, G, h1, h2, h3, h4⟩ := h.ex
  exact own_sl h2.row
theorem Ow.lt {w0 wr : World} {B m : Nat} {v : Value} {hs : List Hd} (h : Ow w0 wr B m v hs) : B < wr.heap.size := by
  obtain ⟨F, G, h1, h2, h3, h4⟩ := h.ex
  exact h1.lt.2
/-- the book's block is none of another kind -/
theorem Ow.ne {w0 wr : World} {B m : Nat} {v : Value} {hs : List Hd} {I : Nat} {c : Array Value} {t : TypeId} {f : Nat × Nat} (h : Ow w0 wr B m v hs) (hI : wr.heap[I]? = some (.cells c t f)) (ht : t ≠ 40) : v.ownBlock ≠ some I := by
  obtain ⟨F, G, h1, h2, h3, h4⟩ := h.ex
  exact own_ty h2.row hI ht
theorem Ow.start {w0 wr : World} {B : Nat} (h : Bn wr (fun k => k < w0.heap.size + 1 ∧ k ≠ B) B 0) (hB : B = w0.heap.size) (hb : Below w0.heap.size w0 wr) : Ow w0 wr B 0 (.slice none 0 0) [] :=
  ⟨⟨_, fun _ => False, h, Bk.nil _ _, fun k e => e.elim, fun k e => ⟨by omega, by omega⟩⟩, hb⟩
theorem Ow.plays {w0 wr : World} {B m : Nat} {v : Value} {hs : List Hd} (h : Ow w0 wr B m v hs) (hm : m ≤ 3298534883327) (k a n mm : Int) (s : ByteArray) (hf : OpFit a n s) :
    Calls Try.prog 11 #[.pointer (some ⟨B, 0, none⟩), opV k a n mm s] wr fun e w' => e = .returned (.bool true) ∧ Ow w0 w' B (m + 1) v hs := by
  obtain ⟨F, G, h1, h2, h3, h4⟩ := h.ex
  refine (plays_any h1 hm k a n mm s hf).mono ?_
  rintro e w' ⟨rfl, b1, f1⟩
  refine ⟨rfl, ⟨F, G, b1, h2.fr (f1.mono (fun k e => (h3 k e).1)), h3, h4⟩, h.bl.trans ⟨f1.os, f1.tape, f1.output, f1.size, fun k hk => f1.block k (by have := h.bl.size; omega) (h4 k hk)⟩⟩
theorem Ow.still {w0 wr : World} {B m : Nat} {v : Value} {hs : List Hd} (h : Ow w0 wr B m v hs) (hl : hs.length ≤ 1099511627776) :
    Calls Try.prog 14 #[v] wr fun e w' => e = .returned (.bool true) ∧ Ow w0 w' B m v hs := by
  obtain ⟨F, G, h1, h2, h3, h4⟩ := h.ex
  refine (still_any h2 hl).mono ?_
  rintro e w' ⟨rfl, hb⟩
  exact ⟨rfl, h.below hb⟩
theorem Ow.fly {w0 wr : World} {B m : Nat} {v : Value} {hs : List Hd} (h : Ow w0 wr B m v hs) (hm : m ≤ 3298534883327) (j : Nat) (hj : j < 2) : ∃ (p q : Option Addr) (L : List Lt), wr.cell? ⟨B, j, none⟩ = some (.pointer p) ∧ wr.cell? ⟨B, 2 + j, none⟩ = some (.pointer q) ∧ L.length ≤ 1024 ∧
    (∀ w', Below wr.heap.size wr w' → Calls Try.prog 7 #[.pointer p] w' fun e w2 => ∃ sa, e = .returned (.slice sa L.length L.length) ∧ Lz w2 sa L ∧ (∀ k, Sa sa k → w'.heap.size ≤ k) ∧ Below w'.heap.size w' w2) ∧
    (∀ w', Below wr.heap.size wr w' → Calls Try.prog 9 #[.pointer q] w' fun e w2 => ∃ v, e = .returned v ∧ LL w2 v L ∧ Below w'.heap.size w' w2) := by
  obtain ⟨F, G, h1, h2, h3, h4⟩ := h.ex
  obtain ⟨p, q, S, c1, c2, PL, _⟩ := h1.open j hj
  obtain ⟨⟨pa, rfl⟩, ⟨qa, rfl⟩⟩ := PL.ptr
  obtain ⟨L, l1, l2, l3⟩ := pl_fly PL hm
  exact ⟨pa, qa, L, c1, c2, l1, l2, l3⟩
theorem Ow.push {w0 wr w1 w2 : World} {B m : Nat} {v v2 : Value} {hs : List Hd} {x : Hd} (h : Ow w0 wr B m v hs) (hk : Below wr.heap.size wr w1) (hx : HdAt w1 (fun k => wr.heap.size ≤ k ∧ k < w1.heap.size) x) (o2 : w2.ownsRow 0 40 4 v2 (hs.length + 1) (hdc hs ++ hdc [x])) (g2 : w1.grownBy w2 v.ownBlock) (a2 : v2.ownBlock = v.ownBlock ∨ v2.ownBlock = some w1.heap.size) : Ow w0 w2 B m v2 (hs ++ [x]) ∧ Kp wr w2 (fun k => v.ownBlock = some k) := by
  obtain ⟨F, G, h1, h2, h3, h4⟩ := h.ex
  have fb := h1.fb
  obtain ⟨b1, k1⟩ := h2.push (fun k e => fb k (h3 k e).1) (Fr.of_below G hk) hx (fun k e => e) o2 g2 a2
  have k2 : Kp wr w2 (fun k => v.ownBlock = some k) := (Kp.of_below hk _).trans k1 (fun k e => Or.inl e)
  refine ⟨⟨⟨fun k => F k ∨ wr.heap.size ≤ k ∧ k < w2.heap.size, _, h1.go k2 (fun k e => (h3 k (h2.vF k e)).1) ?_ ?_, b1, ?_, fun k e => Or.inl (h4 k e)⟩, ?_⟩, k2⟩
  · rintro k (e | e)
    · exact Or.inl e
    · exact Or.inr e.1
  · rintro k (e | e)
    · exact Nat.lt_of_lt_of_le (fb k e) k2.size
    · exact e.2
  · rintro k (e | e)
    · exact ⟨Or.inl (h3 k e).1, (h3 k e).2⟩
    · exact ⟨Or.inr e, by have := h.bl.size; omega⟩
  · exact h.bl.trans ⟨k2.os, k2.tape, k2.output, k2.size, fun k hk => k2.block k (by have := h.bl.size; omega) (fun e => by have := (h3 k (h2.vF k e)).2; omega)⟩
/-- what stands at a place of the book -/
theorem Ow.at {w0 wr : World} {B m g cap : Nat} {hs : List Hd} (h : Ow w0 wr B m (.slice (some ⟨g, 0, none⟩) hs.length cap) hs) (j : Nat) (hj : j < hs.length) : wr.cell? ⟨g, j * 4, none⟩ = some hs[j].vL ∧ wr.cell? ⟨g, j * 4 + 1, none⟩ = some hs[j].vM ∧ wr.cell? ⟨g, j * 4 + 2, none⟩ = some hs[j].vP ∧ wr.cell? ⟨g, j * 4 + 3, none⟩ = some hs[j].vQ ∧ ∃ sa, hs[j].vL = .slice sa hs[j].L.length hs[j].L.length ∧ hs[j].L.length ≤ 1024 ∧ Lz wr sa hs[j].L ∧ ¬ Sa sa g := by
  obtain ⟨F, G, h1, h2, h3, h4⟩ := h.ex
  obtain ⟨e0, e1, e2, e3⟩ := hdc_at hs j hj
  refine ⟨(h2.row.cellAt (j * 4) (by omega)).trans e0, (h2.row.cellAt (j * 4 + 1) (by omega)).trans e1, (h2.row.cellAt (j * 4 + 2) (by omega)).trans e2, (h2.row.cellAt (j * 4 + 3) (by omega)).trans e3, ?_⟩
  obtain ⟨T, t1, t2, t3⟩ := h2.ex
  have t := t1 j hj
  rcases t.l with ⟨a1, a2⟩ | ⟨Gb, a1, a2, a3⟩
  · exact ⟨none, by rw [a1, a2]; rfl, t.ll, Or.inl ⟨rfl, a2⟩, fun e => by cases e⟩
  · refine ⟨_, a1, t.ll, Or.inr ⟨Gb, rfl, a2⟩, fun e => ?_⟩
    unfold Sa at e
    cases e
    exact (t3 j hj _ a3).2.1 rfl
theorem Ow.turn {w0 wr w1 : World} {B m g cap : Nat} {hs : List Hd} {x : Hd} {sa : Option Addr} {n : Nat} (h : Ow w0 wr B m (.slice (some ⟨g, 0, none⟩) hs.length cap) hs) (j : Nat) (hj : j < hs.length) (hsa : hs[j].vL = .slice sa n n) (hk : Kp wr w1 (Sa sa)) (hx : HdAt w1 (fun k => Sa sa k ∨ wr.heap.size ≤ k ∧ k < w1.heap.size) x) : Ow w0 (put4 w1 g j x.vL x.vM x.vP x.vQ) B m (.slice (some ⟨g, 0, none⟩) hs.length cap) (hs.set j x) := by
  obtain ⟨F, G, h1, h2, h3, h4⟩ := h.ex
  have fb := h1.fb
  obtain ⟨b1, k1⟩ := h2.turn j hj (fun k e => fb k (h3 k e).1) ⟨n, hsa⟩ hk hx
  have sz : (put4 w1 g j x.vL x.vM x.vP x.vQ).heap.size = w1.heap.size := by unfold put4; simp only [World.size_setCell]
  have sz1 := hk.size
  refine ⟨⟨fun k => F k ∨ wr.heap.size ≤ k ∧ k < w1.heap.size, _, h1.go k1 (fun k e => (h3 k e).1) ?_ ?_, b1, ?_, fun k e => Or.inl (h4 k e)⟩, ?_⟩
  · rintro k (e | e)
    · exact Or.inl e
    · exact Or.inr e.1
  · rintro k (e | e)
    · have := fb k e
      omega
    · omega
  · rintro k (e | e)
    · exact ⟨Or.inl (h3 k e).1, (h3 k e).2⟩
    · exact ⟨Or.inr e, by have := h.bl.size; omega⟩
  · exact h.bl.trans ⟨k1.os, k1.tape, k1.output, k1.size, fun k hk => k1.block k (by have := h.bl.size; omega) (fun e => by have := (h3 k e).2; omega)⟩
theorem Ow.fz {w0 wr : World} {B m g cap : Nat} {hs : List Hd} (h : Ow w0 wr B m (.slice (some ⟨g, 0, none⟩) hs.length cap) hs) (j : Nat) : wr.frozen? ⟨g, j, none⟩ = false ∧ ∃ c, wr.heap[g]? = some (.cells c 40) := by
  obtain ⟨F, G, h1, h2, h3, h4⟩ := h.ex
  exact ⟨h2.row.frozenAt j, own_blk h2.row rfl⟩
end Go.Proofs.Ytnphdbmacccblab
