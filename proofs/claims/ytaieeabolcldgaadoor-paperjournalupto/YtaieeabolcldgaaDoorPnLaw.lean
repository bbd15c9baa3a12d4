import Derived.Test.YtaieeabolcldgaaDoorPnRns
import Derived.Test.YtaieeabolcldgaaDoorPaLawP
namespace Go.Proofs.YtaieeabolcldgaaDoor
open Go.RowKit Go.Shelf
/-- notes in memory -/
def LiesN (b : Nat) (w : World) (l : List NV) : Prop := ∀ i (h : i < l.length), w.cell? ⟨b, i * 4, none⟩ = some (.int .i64 l[i].1) ∧ w.cell? ⟨b, i * 4 + 1, none⟩ = some (.int .i64 l[i].2.1) ∧ w.cell? ⟨b, i * 4 + 2, none⟩ = some (.int .i64 l[i].2.2.1) ∧ w.cell? ⟨b, i * 4 + 3, none⟩ = some (.int .i64 l[i].2.2.2)
theorem LiesN.below {b : Nat} {w w' : World} {l : List NV} (h : LiesN b w l) (hb : b < w.heap.size) (hw : Below w.heap.size w w') : LiesN b w' l := fun i hi => by
  rw [hw.cell (by exact hb), hw.cell (by exact hb), hw.cell (by exact hb), hw.cell (by exact hb)]; exact h i hi
theorem rowN_lies {w : World} {base g cap n : Nat} {l : List NV} {e : TypeId} (h : w.ownsRow base e 4 (.slice (some ⟨g, 0, none⟩) n cap) n (nc l)) (hn : l.length ≤ n) : LiesN g w l := by
  intro i hi
  have h0 := h.cellAt (i * 4) (by omega)
  have h1 := h.cellAt (i * 4 + 1) (by omega)
  have h2 := h.cellAt (i * 4 + 2) (by omega)
  have h3 := h.cellAt (i * 4 + 3) (by omega)
  obtain ⟨p0, p1, p2, p3⟩ := nc_at l i hi
  rw [h0, h1, h2, h3, p0, p1, p2, p3]
  exact ⟨rfl, rfl, rfl, rfl⟩
set_option maxHeartbeats 1000000 in
set_option maxRecDepth 100000 in
/-- sameNotes, of two lists that are the same -/
theorem sameNotes_any (a1 a2 : Option Addr) (b1 c1 b2 c2 : Nat) (l : List NV) (w : World) (h1 : 0 < l.length → a1 = some ⟨b1, 0, none⟩) (h2 : 0 < l.length → a2 = some ⟨b2, 0, none⟩) (hb1 : 0 < l.length → b1 < w.heap.size) (hb2 : 0 < l.length → b2 < w.heap.size) (hlen : l.length ≤ 4000000) (l1 : LiesN b1 w l) (l2 : LiesN b2 w l) :
    Calls Tryd.prog 13 #[.slice a1 l.length c1, .slice a2 l.length c2] w fun e w' => e = .returned (.bool true) ∧ Below w.heap.size w w' := by
  have L1 := hide l1
  have L2 := hide l2
  clear l1 l2
  go_enter Tryd.func13, Tryd.ntmps13
  go_wp2_with fail
  go_loopw [5] (fun i wr => ∃ k : Nat, k ≤ l.length ∧ i = .int .i64 k ∧ Below w.heap.size w wr) (fun i _ => l.length - (intOf i).toNat)
  case atStart => exact ⟨0, Nat.zero_le _, rfl, Below.refl _ _⟩
  case round =>
    obtain ⟨k, hk, rfl, hnx⟩ := hrel
    by_cases hlt : k < l.length
    · obtain rfl := h1 (by omega)
      obtain rfl := h2 (by omega)
      obtain ⟨d1, d2, d3, d4⟩ := L1.out.below (hb1 (by omega)) hnx k hlt
      obtain ⟨d5, d6, d7, d8⟩ := L2.out.below (hb2 (by omega)) hnx k hlt
      have hk1 : (k : Int) < (l.length : Int) := by omega
      have HNX := hide hnx
      clear hnx
      generalize l[k].1 = X at *
      generalize l[k].2.1 = Y at *
      generalize l[k].2.2.1 = Z at *
      generalize l[k].2.2.2 = V at *
      go_wp2_with fail
      go_quiet (fail)
      go_wp2
      go_roundw
      case rel => exact ⟨k + 1, by omega, by go_num, below_drewN HNX.out _⟩
      case measure => simp [intOf]; omega
    · have HNX := hide hnx
      clear hnx
      go_wp2
      go_ret
      exact ⟨rfl, HNX.out⟩
theorem own_notes {w : World} {base : Nat} {v : Value} {l : List NV} {e : TypeId} (h : w.ownsRow base e 4 v l.length (nc l)) : ∃ (a : Option Addr) (g c : Nat), v = .slice a l.length c ∧ (0 < l.length → a = some ⟨g, 0, none⟩) ∧ (0 < l.length → g < w.heap.size) ∧ LiesN g w l := by
  have h' := h
  obtain ⟨_, ⟨rfl, hn⟩ | ⟨g, cap, cur, rfl, _, hg, _⟩⟩ := h
  · exact ⟨none, 0, 0, by rw [hn], fun z => by omega, fun z => by omega, fun i hi => by omega⟩
  · exact ⟨_, g, cap, rfl, fun _ => rfl, fun _ => (Array.getElem?_eq_some_iff.1 hg).1, rowN_lies h' (Nat.le_refl _)⟩
set_option maxHeartbeats 2000000 in
set_option maxRecDepth 100000 in
theorem notesAnswer_any (tx : ByteArray) (w : World) (htx : tx.size ≤ 4000000) (hT4 : Tab4 0 w) (hP : Pow w) (hsame : SameAt tx) :
    Calls Tryd.prog 9 #[.string tx] w fun e w' => e = .returned (.bool true) ∧ Below w.heap.size w w' := by
  have C1 := hide (parseNotes_any tx w (by omega) hT4)
  have C2 := hide (fun w' (h : Below w.heap.size w w') => rparseNotes_any tx w' htx (hP.below h) hsame)
  clear hT4 hP hsame
  go_enter Tryd.func9, Tryd.ntmps9
  go_wp2_with fail
  refine Calls.mono C1.out ?_
  rintro e w1 ⟨v1, k1, l1, q1, rfl, n1, z1, o1, b1⟩
  have D2 := hide (C2.out w1 b1)
  have N1 := hide n1
  have Z1 := hide z1
  have O1 := hide o1
  have B1 := hide b1
  clear C1 C2 n1 z1 o1 b1
  go_wp2_with fail
  refine Calls.mono D2.out ?_
  rintro e w2 ⟨v2, k2, l2, q2, rfl, n2, z2, o2, b2⟩
  obtain ⟨rfl, rfl⟩ := notes_one N1.out Z1.out n2 z2
  have O1' := hide (own_below O1.out b2)
  have O2 := hide o2
  have B2 := hide (B1.out.trans (b2.mono B1.out.size))
  clear n2 z2 o2 b2 D2 O1 B1
  obtain ⟨a1, g1, c1, rfl, p1, p2, p3⟩ := own_notes O1'.out
  obtain ⟨a2, g2, c2, rfl, p4, p5, p6⟩ := own_notes O2.out
  have hl := (notesAt_le _ _ _ N1.out)
  have S := hide (fun w' (h : Below w2.heap.size w2 w') => sameNotes_any a1 a2 g1 c1 g2 c2 l1 w' p1 p4 (fun z => Nat.lt_of_lt_of_le (p2 z) h.size) (fun z => Nat.lt_of_lt_of_le (p5 z) h.size) (by omega) (fun i hi => p3.below (p2 (by omega)) h i hi) (fun i hi => p6.below (p5 (by omega)) h i hi))
  clear p1 p2 p3 p4 p5 p6 hl O1' O2
  go_wp2_with fail
  refine Calls.mono (S.out w2 (Below.refl _ _)) ?_
  rintro x w3 ⟨rfl, b3⟩
  have B3 := hide (B2.out.trans (b3.mono B2.out.size))
  clear b3 S B2
  go_wp2_with fail
  go_ret
  exact ⟨rfl, B3.out⟩
set_option maxHeartbeats 2000000 in
set_option maxRecDepth 100000 in
/-- the law PaperNotes -/
theorem notes_any (hsame : ∀ tx : ByteArray, tx.size ≤ 4000000 → SameAt tx) (c p e s : Int) (hc : I64 c) (hp : I64 p) (he : I64 e) (tx : ByteArray) (w : World) (htx : tx.size ≤ 2000000) (hT4 : Tab4 0 w) (hP : Pow w) :
    Calls Tryd.prog 3 #[.agg #[.int .i64 c, .int .i64 p, .int .i64 e, .int .i64 s], .string tx] w fun x w' => x = .returned (.bool true) ∧ Below w.heap.size w w' := by
  have hz := noteS_len c p e s hc hp he
  obtain ⟨W0, hW0⟩ : ∃ W0, W0 = w.alloc (.cells #[.int .i64 c, .int .i64 p, .int .i64 e, .int .i64 s] 23) := ⟨_, rfl⟩
  have b0 : Below w.heap.size w W0 := by rw [hW0]; exact (Below.refl _ w).alloc (Nat.le_refl _) _
  have s0 : w.heap.size < W0.heap.size := by rw [hW0]; simp
  have km : Hid (∀ w', Below W0.heap.size W0 w' → w'.cell? ⟨w.heap.size, 0, none⟩ = some (.int .i64 c) ∧ w'.cell? ⟨w.heap.size, 1, none⟩ = some (.int .i64 p) ∧ w'.cell? ⟨w.heap.size, 2, none⟩ = some (.int .i64 e) ∧ w'.cell? ⟨w.heap.size, 3, none⟩ = some (.int .i64 s)) := fun w' hb => by
    rw [hb.cell (by exact s0), hb.cell (by exact s0), hb.cell (by exact s0), hb.cell (by exact s0), hW0]
    exact ⟨by simp, by simp, by simp, by simp⟩
  have C1 := hide (printNote_any c p e s hc hp he W0 (hP.below b0) (hT4.below b0 hT4.lt))
  have C2 := hide (fun w' (hb : Below w.heap.size w w') => rprintNote_any c p e s hc hp he w' (hP.below hb))
  have C3 := hide (fun (t : ByteArray) (ht : t.size ≤ 4000000) w' (hb : Below w.heap.size w w') => notesAnswer_any t w' ht (hT4.below hb hT4.lt) (hP.below hb) (hsame t ht))
  generalize noteS c p e s = S at *
  generalize noteE c p e s = E at *
  have hcat : S.size + tx.size ≤ 4000000 := by omega
  have B0 := hide b0
  clear hT4 hP b0 hc hp he hsame
  go_enter Tryd.func3, Tryd.ntmps3
  go_wp2_with fail
  rw [← hW0]
  clear hW0
  refine Calls.mono C1.out ?_
  rintro x w1 ⟨rfl, b1⟩
  obtain ⟨k0, k1, k2, k3⟩ := km.out _ b1
  have B1 := hide (B0.out.trans (b1.mono B0.out.size))
  have D2 := hide (C2.out w1 B1.out)
  clear b1 C1 C2 km
  go_wp2_with fail
  refine Calls.mono D2.out ?_
  rintro x w2 ⟨rfl, b2⟩
  have B2 := hide (B1.out.trans (b2.mono B1.out.size))
  have D3 := hide (C3.out tx (by omega) w2 B2.out)
  clear b2 D2 k0 k1 k2 k3
  go_wp2_with fail
  refine Calls.mono (pnum_any _ _) ?_
  rintro x w3 ⟨rfl, rfl⟩
  go_wp2_with fail
  refine Calls.mono D3.out ?_
  rintro x w4 ⟨rfl, b4⟩
  have B4 := hide (B2.out.trans (b4.mono B2.out.size))
  have D4 := hide (C3.out S (by omega) w4 B4.out)
  clear b4 D3
  go_wp2_with fail
  refine Calls.mono D4.out ?_
  rintro x w5 ⟨rfl, b5⟩
  have B5 := hide (B4.out.trans (b5.mono B4.out.size))
  have D5 := hide (C3.out (S ++ tx) (by rw [ByteArray.size_append]; omega) w5 B5.out)
  clear b5 D4 C3
  go_wp2_with fail
  refine Calls.mono D5.out ?_
  rintro x w6 ⟨rfl, b6⟩
  have B6 := hide (B5.out.trans (b6.mono B5.out.size))
  clear b6 D5
  go_wp2_with fail
  go_ret
  exact ⟨rfl, B6.out⟩
end Go.Proofs.YtaieeabolcldgaaDoor
