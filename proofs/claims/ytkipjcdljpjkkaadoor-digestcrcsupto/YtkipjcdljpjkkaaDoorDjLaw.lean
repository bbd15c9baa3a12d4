import Derived.Test.YtkipjcdljpjkkaaDoorDjCrcs
namespace Go.Proofs.YtkipjcdljpjkkaaDoor
open Go.RowKit
theorem OL.below {lo : Nat} {w w' : World} {v : Value} {xs : List ByteArray} (h : OL lo w v xs) (hb : Below w.heap.size w w') : OL lo w' v xs := by
  rcases h with h | ⟨g, c, hg, hp, hv, hgl, ho⟩
  · exact Or.inl h
  · refine Or.inr ⟨g, c, hg, hp, hv, Nat.lt_of_lt_of_le hgl hb.size, ho.1, ?_⟩
    rcases ho.2 with h | ⟨g', cap, cur, hv', hg', hblk, r⟩
    · exact Or.inl h
    · have hlt : g' < w.heap.size := by
        rcases Nat.lt_or_ge g' w.heap.size with h | h
        · exact h
        · rw [Array.getElem?_eq_none h] at hblk; simp at hblk
      exact Or.inr ⟨g', cap, cur, hv', hg', by rw [hb.block g' hlt]; exact hblk, r⟩
theorem crcO {lo : Nat} {w : World} {v : Value} {xs : List ByteArray} (h : OL lo w v xs) (hlen : xs.length ≤ 1099511627776) (hs : ∀ x ∈ xs, x.size ≤ 1099511627776) (hT : Tab4 1 w) :
    Calls Tryd.prog 9 #[v] w fun e w' => e = .returned (.int .i64 (crcN 0 (cat xs) : Int)) ∧ w = w' := by
  rcases h with ⟨rfl, rfl⟩ | ⟨g, c, hg, hp, rfl, hgl, ho⟩
  · exact crc_any none 0 0 0 [] w (fun h => by simp at h) (fun j x hx => by simp at hx) hlen hs hT
  · exact crc_any _ g 0 c xs w (fun _ => rfl) (own_lies ho) hlen hs hT
theorem twinO {lo : Nat} {w : World} {v : Value} {xs : List ByteArray} (h : OL lo w v xs) (hlen : xs.length ≤ 1048576) :
    Calls Tryd.prog 8 #[v] w fun e w' => ∃ u, e = .returned u ∧ OL w.heap.size w' u xs ∧ Below w.heap.size w w' := by
  rcases h with ⟨rfl, rfl⟩ | ⟨g, c, hg, hp, rfl, hgl, ho⟩
  · exact twin_own none 0 0 0 [] w (fun h => by simp at h) (fun h => by simp at h) (fun j x hx => by simp at hx) hlen
  · exact twin_own _ g 0 c xs w (fun _ => rfl) (fun _ => hgl) (own_lies ho) hlen
theorem joinO {lo : Nat} {w : World} {v : Value} {xs : List ByteArray} (h : OL lo w v xs) (hlen : xs.length ≤ 1099511627776) (hs : (cat xs).length ≤ 1099511627776) :
    Calls Tryd.prog 10 #[v] w fun e w' => e = .returned (.string (strOf (cat xs))) ∧ Below w.heap.size w w' := by
  rcases h with ⟨rfl, rfl⟩ | ⟨g, c, hg, hp, rfl, hgl, ho⟩
  · exact rjoin_any none 0 0 0 [] w (fun h => by simp at h) (fun h => by simp at h) (fun j x hx => by simp at hx) hlen hs
  · exact rjoin_any _ g 0 c xs w (fun _ => rfl) (fun _ => hgl) (own_lies ho) hlen hs
theorem sameO {lo : Nat} {w : World} {v : Value} {xs : List ByteArray} (h : OL lo w v xs) (ao : Option Addr) (b off cap : Nat) (hao : 0 < xs.length → ao = some ⟨b, off, none⟩) (hl : Lies b off w xs) (hlen : xs.length ≤ 1099511627776) :
    Calls Tryd.prog 12 #[v, .slice ao xs.length cap] w fun e w' => e = .returned (.bool true) ∧ Below w.heap.size w w' := by
  rcases h with ⟨rfl, rfl⟩ | ⟨g, c, hg, hp, rfl, hgl, ho⟩
  · exact same_any none ao 0 0 0 b off cap [] w (fun h => by simp at h) hao (fun j x hx => by simp at hx) hl hlen
  · exact same_any _ ao g 0 c b off cap xs w (fun _ => rfl) hao (own_lies ho) hl hlen
theorem overO {lo : Nat} {w : World} {v : Value} {xs : List ByteArray} (h : OL lo w v xs) (hlen : xs.length ≤ 1099511627776) (hs : ∀ x ∈ xs, x.size ≤ 1099511627776) :
    Calls Tryd.prog 13 #[v] w fun e w' => e = .returned (.tuple #[]) ∧ OL lo w' v (xs.map turnB) ∧ Below lo w w' := by
  rcases h with ⟨rfl, rfl⟩ | ⟨g, c, hg, hp, rfl, hgl, ho⟩
  · exact (over_nil w).mono fun e w' ⟨he, hw⟩ => ⟨he, Or.inl ⟨rfl, rfl⟩, hw ▸ Below.refl _ _⟩
  · exact (over_any lo g c xs w ho hg hgl hlen hs).mono fun e w' ⟨he, ho', hb⟩ => ⟨he, Or.inr ⟨g, c, hg, by simpa using hp, by simp, Nat.lt_of_lt_of_le hgl hb.size, by simpa using ho'⟩, hb⟩
theorem Lies.below {b off B : Nat} {w w' : World} {xs : List ByteArray} (h : Lies b off w xs) (hb : 0 < xs.length → b < B) (hx : Below B w w') : Lies b off w' xs := by
  intro j x hj
  have := (List.getElem?_eq_some_iff.1 hj).1
  exact (hx.cell (p := ⟨b, off + j, none⟩) (hb (by omega))).trans (h j x hj)
theorem strOf_list (l : List UInt8) : (strOf l).data.toList = l := by simp [strOf]
set_option maxHeartbeats 2000000 in
set_option maxRecDepth 100000 in
/-- the law DigestCRCs -/
theorem crcs_any (ao : Option Addr) (b off cap : Nat) (xs : List ByteArray) (w : World) (hao : 0 < xs.length → ao = some ⟨b, off, none⟩) (hb : 0 < xs.length → b < w.heap.size) (hl : Lies b off w xs) (hlen : xs.length ≤ 1048576) (hs : (cat xs).length ≤ 1048576) (hT : Tab4 1 w) :
    Calls Tryd.prog 3 #[.slice ao xs.length cap] w fun e w' => e = .returned (.bool true) ∧ Below w.heap.size w w' := by
  have hg : 1 < w.heap.size := World.block_lt_of_cell? w _ (hT 0 (by omega))
  have hsz : ∀ x ∈ xs, x.size ≤ 1099511627776 := fun x hx => Nat.le_trans (mem_catj hx) (by omega)
  have hcl := cat_turn xs
  have hyl : (xs.map turnB).length ≤ 1048576 := by simpa using hlen
  have hys : ∀ x ∈ xs.map turnB, x.size ≤ 1099511627776 := fun x hx => Nat.le_trans (mem_catj hx) (by omega)
  have e1 : ∀ l : List UInt8, l.length ≤ 1099511627776 → ∀ w' : World, Calls Tryd.prog 11 #[.string (strOf l)] w' fun e w'' => e = .returned (.int .i64 (crcN 0 l : Int)) ∧ w' = w'' := fun l hl w' => by
    have := rcrc_any (strOf l) w' (by rw [strOf_size]; exact hl)
    rw [strOf_list] at this
    exact this
  have C1 := hide (e1 (cat xs) (by omega))
  have C2 := hide (e1 (cat (xs.map turnB)) (by omega))
  have hl2 : (cat (xs.map turnB)).length ≤ 1099511627776 := by omega
  have HL := hide hl
  have HT := hide hT
  have HSZ := hide hsz
  have HYS := hide hys
  have HYL := hide hyl
  have HL2 := hide hl2
  have TW := hide (twin_own ao b off cap xs w hao hb hl hlen)
  clear hl hT hsz hys hyl hl2 hcl e1
  go_enter Tryd.func3, Tryd.ntmps3
  go_wp2_with fail
  refine Calls.mono TW.out ?_
  rintro e w1 ⟨l, rfl, ol1, b1⟩
  have O1 := hide ol1
  have B1 := hide b1
  clear ol1 b1
  go_wp2_with fail
  refine Calls.mono (crcO O1.out (by omega) HSZ.out (HT.out.below B1.out hg)) ?_
  rintro e wx ⟨rfl, rfl⟩
  go_wp2_with fail
  refine Calls.mono (rjoin_any ao b off cap xs w1 hao (fun h => Nat.lt_of_lt_of_le (hb h) B1.out.size) (HL.out.below hb B1.out) (by omega) (by omega)) ?_
  rintro e w2 ⟨rfl, b2⟩
  have B2 := hide (show Below w.heap.size w w2 from B1.out.trans (b2.mono B1.out.size))
  have O2 := hide (O1.out.below b2)
  clear b2 O1 B1
  go_wp2_with fail
  refine Calls.mono (C1.out _) ?_
  rintro e wx ⟨rfl, rfl⟩
  go_wp2_with fail
  refine Calls.mono (sameO O2.out ao b off cap hao (HL.out.below hb B2.out) (by omega)) ?_
  rintro e w3 ⟨rfl, b3⟩
  have B3 := hide (show Below w.heap.size w w3 from B2.out.trans (b3.mono B2.out.size))
  have O3 := hide (O2.out.below b3)
  clear b3 O2 B2
  go_wp2_with fail
  refine Calls.mono (overO O3.out (by omega) HSZ.out) ?_
  rintro e w4 ⟨rfl, o4, b4⟩
  have B4 := hide (show Below w.heap.size w w4 from B3.out.trans b4)
  have O4 := hide o4
  clear b4 o4 O3 B3
  go_wp2_with fail
  refine Calls.mono (crcO O4.out (Nat.le_trans HYL.out (by omega)) HYS.out (HT.out.below B4.out hg)) ?_
  rintro e wx ⟨rfl, rfl⟩
  go_wp2_with fail
  refine Calls.mono (twinO O4.out HYL.out) ?_
  rintro e w5 ⟨l2, rfl, o5, b5⟩
  have B5 := hide (show Below w.heap.size w w5 from B4.out.trans (b5.mono B4.out.size))
  have O5 := hide o5
  clear o5 b5 O4 B4
  go_wp2_with fail
  refine Calls.mono (joinO O5.out (Nat.le_trans HYL.out (by omega)) HL2.out) ?_
  rintro e w6 ⟨rfl, b6⟩
  have B6 := hide (show Below w.heap.size w w6 from B5.out.trans (b6.mono B5.out.size))
  clear b6 O5 B5
  go_wp2_with fail
  refine Calls.mono (C2.out _) ?_
  rintro e wx ⟨rfl, rfl⟩
  go_wp2
  go_ret
  exact ⟨rfl, B6.out⟩
end Go.Proofs.YtkipjcdljpjkkaaDoor
