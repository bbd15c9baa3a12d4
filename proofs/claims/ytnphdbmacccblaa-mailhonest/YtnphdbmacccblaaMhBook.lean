import Derived.Test.YtnphdbmacccblaaMbUp
namespace Go.Proofs.Ytnphdbmacccblaa
open Go.RowKit
/-- the law's own book -/
structure BkY (w : World) (S : Nat → Prop) (K : Nat) (vA vG : Value) (LA : List Lt) (LG : List Bool) : Prop where
  blk : w.heap[K]? = some (.cells #[vA, vG] 48)
  rA : w.ownsRow 0 33 4 vA LA.length (ltc LA)
  rG : w.ownsRow 0 4 1 vG LG.length (blc LG)
  sK : S K
  sA : ∀ k, vA.ownBlock = some k → S k
  sG : ∀ k, vG.ownBlock = some k → S k
  sb : ∀ k, S k → k < w.heap.size
section
variable {w w' : World} {S : Nat → Prop} {K : Nat} {vA vG : Value} {LA : List Lt} {LG : List Bool}
theorem BkY.c0 (h : BkY w S K vA vG LA LG) : w.cell? ⟨K, 0, none⟩ = some vA := by unfold World.cell?; rw [h.blk]; rfl
theorem BkY.c1 (h : BkY w S K vA vG LA LG) : w.cell? ⟨K, 1, none⟩ = some vG := by unfold World.cell?; rw [h.blk]; rfl
theorem BkY.kp {U : Nat → Prop} (h : BkY w S K vA vG LA LG) (hk : Kp w w' U) (hd : ∀ k, S k → ¬ U k) : BkY w' S K vA vG LA LG :=
  ⟨(hk.block _ (blk_lt h.blk) (hd _ h.sK)).trans h.blk, own_kp h.rA hk (fun k e => hd _ (h.sA k e)), own_kp h.rG hk (fun k e => hd _ (h.sG k e)), h.sK, h.sA, h.sG, fun k e => Nat.lt_of_lt_of_le (h.sb k e) hk.size⟩
theorem BkY.below (h : BkY w S K vA vG LA LG) (hb : Below w.heap.size w w') : BkY w' S K vA vG LA LG := h.kp (Kp.of_below hb non) (fun _ _ f => f)
theorem BkY.alloc (h : BkY w S K vA vG LA LG) (o : Obj) : BkY (w.alloc o) S K vA vG LA LG := h.below ((Below.refl _ w).alloc (Nat.le_refl _) o)
theorem BkY.drew (h : BkY w S K vA vG LA LG) : BkY w.drew S K vA vG LA LG := h.below ⟨rfl, rfl, rfl, Nat.le_refl _, fun _ _ => rfl⟩
theorem BkY.lt {g cap : Nat} (h : BkY w S K (.slice (some ⟨g, 0, none⟩) LA.length cap) vG LA LG) (q : Nat) (hq : q < LA.length) : w.cell? ⟨g, q * 4, none⟩ = some (.int .i64 LA[q].id) ∧ w.cell? ⟨g, q * 4 + 1, none⟩ = some (.int .i64 LA[q].fr) ∧ w.cell? ⟨g, q * 4 + 2, none⟩ = some (.int .i64 LA[q].td) ∧ w.cell? ⟨g, q * 4 + 3, none⟩ = some (.string LA[q].tx) := by
  obtain ⟨e1, e2, e3, e4⟩ := ltc_at LA q hq
  exact ⟨(h.rA.cellAt (q * 4) (by omega)).trans e1, (h.rA.cellAt (q * 4 + 1) (by omega)).trans e2, (h.rA.cellAt (q * 4 + 2) (by omega)).trans e3, (h.rA.cellAt (q * 4 + 3) (by omega)).trans e4⟩
theorem BkY.gn {g cap : Nat} (h : BkY w S K vA (.slice (some ⟨g, 0, none⟩) LG.length cap) LA LG) (q : Nat) (hq : q < LG.length) : w.cell? ⟨g, q, none⟩ = some (.bool LG[q]) := by
  refine (h.rG.cellAt q (by omega)).trans ?_
  simp [blc, hq]
end
theorem BkY.growA {X X1 : World} {S : Nat → Prop} {K : Nat} {vA vG v' : Value} {LA : List Lt} {LG : List Bool} {x : Lt} (h : BkY X S K vA vG LA LG) (o : X1.ownsRow 0 33 4 v' (LA.length + 1) (ltc LA ++ ltc [x])) (g : X.grownBy X1 vA.ownBlock) (hn : v'.ownBlock = vA.ownBlock ∨ v'.ownBlock = some X.heap.size) :
    X1.heap[K]? = some (.cells #[vA, vG] 48) ∧ BkY (X1.setCell ⟨K, 0, none⟩ v') (fun k => S k ∨ v'.ownBlock = some k) K v' vG (LA ++ [x]) LG ∧ Kp X (X1.setCell ⟨K, 0, none⟩ v') S ∧ Nr X S (fun k => S k ∨ v'.ownBlock = some k) := by
  have nQ : ∀ {w : World} {e s n : Nat} {v : Value} {xs : List Value}, w.heap[K]? = some (.cells #[vA, vG] 48) → w.ownsRow 0 e s v n xs → 48 ≠ e → v.ownBlock ≠ some K := fun hb hr hne => own_ty hr hb hne
  have hQ := (g.block K (blk_lt h.blk) (fun e => nQ h.blk h.rA (by decide) e.symm)).trans h.blk
  have nQ' : v'.ownBlock ≠ some K := nQ hQ o (by decide)
  have hlt : ∀ k, v'.ownBlock = some k → k < X1.heap.size := fun k hk => by
    obtain ⟨cur, hc⟩ := own_blk o hk
    exact blk_lt hc
  refine ⟨hQ, ⟨heap_setCell _ _ _ _ _ _ _ hQ, ?_, ?_, Or.inl h.sK, ?_, ?_, ?_⟩, ?_, ?_⟩
  · rw [ltc_append, List.length_append]
    exact own_set o nQ'
  · exact own_set (own_keep h.rG g (fun k e1 e2 => own_apart h.rG h.rA (by decide) k e1 e2)) (nQ h.blk h.rG (by decide))
  · exact fun k e => Or.inr e
  · exact fun k e => Or.inl (h.sG k e)
  · rintro k (e | e)
    · rw [World.size_setCell]; exact Nat.lt_of_lt_of_le (h.sb k e) g.size
    · rw [World.size_setCell]; exact hlt k e
  · exact ((Kp.of_grown g).mono (fun k e => h.sA k e.symm)).set (Or.inl h.sK) 0 v'
  · rintro k (a | a)
    · exact Or.inl a
    · rcases hn with e | e
      · exact Or.inl (h.sA k (e.symm.trans a))
      · rw [e] at a; cases a; exact Or.inr (Nat.le_refl _)
theorem BkY.growG {X X1 : World} {S : Nat → Prop} {K : Nat} {vA vG v' : Value} {LA : List Lt} {LG : List Bool} {x : Bool} (h : BkY X S K vA vG LA LG) (o : X1.ownsRow 0 4 1 v' (LG.length + 1) (blc LG ++ blc [x])) (g : X.grownBy X1 vG.ownBlock) (hn : v'.ownBlock = vG.ownBlock ∨ v'.ownBlock = some X.heap.size) :
    X1.heap[K]? = some (.cells #[vA, vG] 48) ∧ BkY (X1.setCell ⟨K, 1, none⟩ v') (fun k => S k ∨ v'.ownBlock = some k) K vA v' LA (LG ++ [x]) ∧ Kp X (X1.setCell ⟨K, 1, none⟩ v') S ∧ Nr X S (fun k => S k ∨ v'.ownBlock = some k) := by
  have nQ : ∀ {w : World} {e s n : Nat} {v : Value} {xs : List Value}, w.heap[K]? = some (.cells #[vA, vG] 48) → w.ownsRow 0 e s v n xs → 48 ≠ e → v.ownBlock ≠ some K := fun hb hr hne => own_ty hr hb hne
  have hQ := (g.block K (blk_lt h.blk) (fun e => nQ h.blk h.rG (by decide) e.symm)).trans h.blk
  have nQ' : v'.ownBlock ≠ some K := nQ hQ o (by decide)
  have hlt : ∀ k, v'.ownBlock = some k → k < X1.heap.size := fun k hk => by
    obtain ⟨cur, hc⟩ := own_blk o hk
    exact blk_lt hc
  refine ⟨hQ, ⟨heap_setCell _ _ _ _ _ _ _ hQ, ?_, ?_, Or.inl h.sK, ?_, ?_, ?_⟩, ?_, ?_⟩
  · exact own_set (own_keep h.rA g (fun k e1 e2 => own_apart h.rA h.rG (by decide) k e1 e2)) (nQ h.blk h.rA (by decide))
  · rw [show blc (LG ++ [x]) = blc LG ++ blc [x] by simp [blc], List.length_append]
    exact own_set o nQ'
  · exact fun k e => Or.inl (h.sA k e)
  · exact fun k e => Or.inr e
  · rintro k (e | e)
    · rw [World.size_setCell]; exact Nat.lt_of_lt_of_le (h.sb k e) g.size
    · rw [World.size_setCell]; exact hlt k e
  · exact ((Kp.of_grown g).mono (fun k e => h.sG k e.symm)).set (Or.inl h.sK) 1 v'
  · rintro k (a | a)
    · exact Or.inl a
    · rcases hn with e | e
      · exact Or.inl (h.sG k (e.symm.trans a))
      · rw [e] at a; cases a; exact Or.inr (Nat.le_refl _)
/-- the book holds A -/
def Bo (w : World) (S : Nat → Prop) (K : Nat) (A : AB) : Prop := ∃ vA vG, BkY w S K vA vG (A.map (·.1)) (A.map (·.2))
theorem Bo.kp {w w' : World} {S U : Nat → Prop} {K : Nat} {A : AB} (h : Bo w S K A) (hk : Kp w w' U) (hd : ∀ k, S k → ¬ U k) : Bo w' S K A := by
  obtain ⟨vA, vG, h⟩ := h
  exact ⟨vA, vG, h.kp hk hd⟩
theorem Bo.below {w w' : World} {S : Nat → Prop} {K : Nat} {A : AB} (h : Bo w S K A) (hb : Below w.heap.size w w') : Bo w' S K A := h.kp (Kp.of_below hb non) (fun _ _ f => f)
theorem Bo.sb {w : World} {S : Nat → Prop} {K : Nat} {A : AB} (h : Bo w S K A) : ∀ k, S k → k < w.heap.size := by
  obtain ⟨vA, vG, h⟩ := h
  exact h.sb
set_option maxHeartbeats 8000000 in
set_option maxRecDepth 100000 in
set_option linter.unusedSimpArgs false in
set_option linter.unusedVariables false in
theorem left_any {w : World} {S : Nat → Prop} {Q : Nat} {vA vG : Value} {A : AB} (h : BkY w S Q vA vG (A.map (·.1)) (A.map (·.2))) (hA : A.length ≤ 3298534883328) :
    Calls Try.prog 21 #[.pointer (some ⟨Q, 0, none⟩)] w fun e w' => ∃ v, e = .returned v ∧ w'.ownsRow w.heap.size 33 4 v (live A).length (ltc (live A)) ∧ Below w.heap.size w w' := by
  obtain ⟨ba, cap, hvA⟩ := own_sl h.rA
  obtain ⟨bg, capg, hvG⟩ := own_sl h.rG
  rw [List.length_map] at hvA hvG
  subst hvA
  subst hvG
  obtain ⟨i0, hi0, hz0, hz1, hz2⟩ := info_parts4 infoLt
  have HR := hide h
  clear h
  go_enter Try.func21, Try.ntmps21
  go_wp2_with fail
  go_loopw [3, 4] (fun vl vk wr => ∃ (q : Nat), q ≤ A.length ∧ vk = .int .i64 (q : Int) ∧ wr.ownsRow w.heap.size 33 4 vl (live (A.take q)).length (ltc (live (A.take q))) ∧ Below w.heap.size w wr) (fun _ vk _ => A.length - (intOf vk).toNat)
  case atStart => exact ⟨0, Nat.zero_le _, rfl, World.ownsRow_nil _ _ _ _, Below.refl _ _⟩
  case round =>
    obtain ⟨q, hq, rfl, ho, hB⟩ := hrel
    have HO := hide ho
    have HB := hide hB
    have HX := hide (HR.out.below hB)
    clear ho hB
    have c1 := HX.out.c0
    have c2 := HX.out.c1
    by_cases hql : q < A.length
    case pos =>
      obtain ⟨g, cap', hg⟩ := own_g HX.out.rG (by simp; omega)
      have hg2 : bg = some ⟨g, 0, none⟩ ∧ capg = cap' := by
        simp only [Value.slice.injEq, List.length_map, true_and] at hg
        exact hg
      obtain ⟨rfl, rfl⟩ := hg2
      clear hg
      obtain ⟨ga, cap'', hga⟩ := own_g HX.out.rA (by simp; omega)
      have hga2 : ba = some ⟨ga, 0, none⟩ ∧ cap = cap'' := by
        simp only [Value.slice.injEq, List.length_map, true_and] at hga
        exact hga
      obtain ⟨rfl, rfl⟩ := hga2
      clear hga
      have HXZ := HX.out
      have x0 : wr.cell? ⟨g, q, none⟩ = some (.bool A[q].2) := by
        have z : BkY wr S Q (.slice (some ⟨ga, 0, none⟩) A.length cap) (.slice (some ⟨g, 0, none⟩) (A.map (·.2)).length capg) (A.map (·.1)) (A.map (·.2)) := by rw [List.length_map]; exact HXZ
        have := z.gn q (by simpa using hql)
        rw [List.getElem_map] at this
        exact this
      obtain ⟨l0, l1, l2, l3⟩ : wr.cell? ⟨ga, q * 4, none⟩ = some (.int .i64 A[q].1.id) ∧ wr.cell? ⟨ga, q * 4 + 1, none⟩ = some (.int .i64 A[q].1.fr) ∧ wr.cell? ⟨ga, q * 4 + 2, none⟩ = some (.int .i64 A[q].1.td) ∧ wr.cell? ⟨ga, q * 4 + 3, none⟩ = some (.string A[q].1.tx) := by
        have z : BkY wr S Q (.slice (some ⟨ga, 0, none⟩) (A.map (·.1)).length cap) (.slice (some ⟨g, 0, none⟩) A.length capg) (A.map (·.1)) (A.map (·.2)) := by rw [List.length_map]; exact HXZ
        have := z.lt q (by simpa using hql)
        rw [List.getElem_map] at this
        exact this
      clear HXZ
      have LT := hide (live_take (A := A) q hql)
      have hll : Hid ((live (A.take q)).length ≤ 3298534883328) := Nat.le_trans (live_le _) (by rw [List.length_take]; omega)
      have hqi : (q : Int) < (A.length : Int) := by omega
      generalize A[q].2 = gg at *
      generalize A[q].1 = xx at *
      cases gg
      case true =>
        clear l0 l1 l2 l3
        go_wp2_with fail
        go_roundw
        case rel => exact ⟨q + 1, by omega, by go_num, by rw [LT.out, if_pos rfl, List.append_nil]; exact HO.out, HB.out⟩
        case measure => simp [intOf]; omega
      case false =>
        have hLT : live (A.take (q + 1)) = live (A.take q) ++ [xx] := by rw [LT.out]; simp
        have LT := hide hLT
        clear hLT
        obtain ⟨hm1, hm2⟩ : (live (A.take q)).length + 1 ≤ maxLen ∧ ((live (A.take q)).length + 1) * 40 ≤ 140737488355328 := by have := hll.out; unfold maxLen; omega
        have sz : Hid (w.heap.size ≤ wr.heap.size) := HB.out.size
        generalize live (A.take q) = LL at *
        go_wp2_with (at_builtin; refine wpList_append_own_at _ rfl _ _ 46 rfl w.heap.size 33 i0 _ 4 40 Try.underlying46 hi0 hz0 hz1 hz2 rfl (by decide) _ _ _ rfl (HO.out.alloc _) ⟨wr.heap.size, 0, none⟩ 1 1 (ltc [xx]) rfl rfl (lt_cells (heap_last wr _)) (ltc_one _) hm1 hm2 (by have := sz.out; simp; omega) ?_; intro v2 w2 o2 g2 n2 a2; clear n2 a2)
        go_roundw
        case rel => exact ⟨q + 1, by omega, by go_num, by rw [LT.out, List.length_append, ltc_append]; exact o2, (HB.out.alloc sz.out _).grown g2 (by have := sz.out; simp; omega) (fun j hj => (HO.out.lt j hj).1)⟩
        case measure => simp [intOf]; omega
    case neg =>
      obtain rfl : q = A.length := by omega
      go_wp2_with fail
      go_ret
      refine ⟨_, rfl, ?_, HB.out⟩
      have := HO.out
      rw [List.take_length] at this
      exact this
end Go.Proofs.Ytnphdbmacccblaa
