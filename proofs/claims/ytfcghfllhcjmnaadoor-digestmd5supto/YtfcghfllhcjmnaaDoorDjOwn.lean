import Derived.Test.YtfcghfllhcjmnaaDoorDjTwin
namespace Go.Proofs.YtfcghfllhcjmnaaDoor
open Go.RowKit
theorem OL.below {lo : Nat} {w w' : World} {v : Value} {xs : List ByteArray} (h : OL lo w v xs) (hb : Below w.heap.size w w') : OL lo w' v xs := by
  rcases h with h | ⟨g, c, hg, hp, hv, hgl, ho⟩
  · exact Or.inl h
  · refine Or.inr ⟨g, c, hg, hp, hv, Nat.lt_of_lt_of_le hgl hb.size, ho.1, ?_⟩
    rcases ho.2 with h | ⟨g', cap, cur, hv', hg', hblk, r⟩
    · exact Or.inl h
    · have hlt : g' < w.heap.size := by
        rcases Nat.lt_or_ge g' w.heap.size with h | h
        · exact h
        · rw [Array.getElem?_eq_none h] at hblk; simp at hblk
      exact Or.inr ⟨g', cap, cur, hv', hg', by rw [hb.block g' hlt]; exact hblk, r⟩
theorem twinO {lo : Nat} {w : World} {v : Value} {xs : List ByteArray} (h : OL lo w v xs) (hlen : xs.length ≤ 1048576) :
    Calls Tryd.prog 22 #[v] w fun e w' => ∃ u, e = .returned u ∧ OL w.heap.size w' u xs ∧ Below w.heap.size w w' := by
  rcases h with ⟨rfl, rfl⟩ | ⟨g, c, hg, hp, rfl, hgl, ho⟩
  · exact twin_own none 0 0 0 [] w (fun h => by simp at h) (fun h => by simp at h) (fun j x hx => by simp at hx) hlen
  · exact twin_own _ g 0 c xs w (fun _ => rfl) (fun _ => hgl) (own_lies ho) hlen
theorem joinO {lo : Nat} {w : World} {v : Value} {xs : List ByteArray} (h : OL lo w v xs) (hlen : xs.length ≤ 1099511627776) (hs : (cat xs).length ≤ 1099511627776) :
    Calls Tryd.prog 24 #[v] w fun e w' => e = .returned (.string (strOf (cat xs))) ∧ Below w.heap.size w w' := by
  rcases h with ⟨rfl, rfl⟩ | ⟨g, c, hg, hp, rfl, hgl, ho⟩
  · exact rjoin_any none 0 0 0 [] w (fun h => by simp at h) (fun h => by simp at h) (fun j x hx => by simp at hx) hlen hs
  · exact rjoin_any _ g 0 c xs w (fun _ => rfl) (fun _ => hgl) (own_lies ho) hlen hs
theorem sameO {lo : Nat} {w : World} {v : Value} {xs : List ByteArray} (h : OL lo w v xs) (ao : Option Addr) (b off cap : Nat) (hao : 0 < xs.length → ao = some ⟨b, off, none⟩) (hl : Lies b off w xs) (hlen : xs.length ≤ 1099511627776) :
    Calls Tryd.prog 26 #[v, .slice ao xs.length cap] w fun e w' => e = .returned (.bool true) ∧ Below w.heap.size w w' := by
  rcases h with ⟨rfl, rfl⟩ | ⟨g, c, hg, hp, rfl, hgl, ho⟩
  · exact same_any none ao 0 0 0 b off cap [] w (fun h => by simp at h) hao (fun j x hx => by simp at hx) hl hlen
  · exact same_any _ ao g 0 c b off cap xs w (fun _ => rfl) hao (own_lies ho) hl hlen
theorem overO {lo : Nat} {w : World} {v : Value} {xs : List ByteArray} (h : OL lo w v xs) (hlen : xs.length ≤ 1099511627776) (hs : ∀ x ∈ xs, x.size ≤ 1099511627776) :
    Calls Tryd.prog 27 #[v] w fun e w' => e = .returned (.tuple #[]) ∧ OL lo w' v (xs.map turnB) ∧ Below lo w w' := by
  rcases h with ⟨rfl, rfl⟩ | ⟨g, c, hg, hp, rfl, hgl, ho⟩
  · exact (over_nil w).mono fun e w' ⟨he, hw⟩ => ⟨he, Or.inl ⟨rfl, rfl⟩, hw ▸ Below.refl _ _⟩
  · exact (over_any lo g c xs w ho hg hgl hlen hs).mono fun e w' ⟨he, ho', hb⟩ => ⟨he, Or.inr ⟨g, c, hg, by simpa using hp, by simp, Nat.lt_of_lt_of_le hgl hb.size, by simpa using ho'⟩, hb⟩
theorem Lies.below {b off B : Nat} {w w' : World} {xs : List ByteArray} (h : Lies b off w xs) (hb : 0 < xs.length → b < B) (hx : Below B w w') : Lies b off w' xs := by
  intro j x hj
  have := (List.getElem?_eq_some_iff.1 hj).1
  exact (hx.cell (p := ⟨b, off + j, none⟩) (hb (by omega))).trans (h j x hj)
theorem strOf_list (l : List UInt8) : (strOf l).data.toList = l := by simp [strOf]
end Go.Proofs.YtfcghfllhcjmnaaDoor
