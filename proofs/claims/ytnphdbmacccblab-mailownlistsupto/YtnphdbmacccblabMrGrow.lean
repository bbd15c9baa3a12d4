import Derived.Test.YtnphdbmacccblabMrFly
namespace Go.Proofs.Ytnphdbmacccblab
open Go.RowKit
structure RfY (w : World) (S : Nat → Prop) (Q : Nat) (vA vG vT : Value) (lim : Int) (LA : List Lt) (LG : List Bool) (T : TN) : Prop where
  blk : w.heap[Q]? = some (.cells #[.int .i64 lim, vA, vG, vT] 57)
  rA : w.ownsRow 0 53 4 vA LA.length (ltc LA)
  rG : w.ownsRow 0 4 1 vG LG.length (blc LG)
  rT : w.ownsRow 0 90 3 vT T.length (tnc T)
  sQ : S Q
  sA : ∀ k, vA.ownBlock = some k → S k
  sG : ∀ k, vG.ownBlock = some k → S k
  sT : ∀ k, vT.ownBlock = some k → S k
  sb : ∀ k, S k → k < w.heap.size
theorem RfX.toY {w : World} {S : Nat → Prop} {Q : Nat} {vA vG vT : Value} {lim : Int} {A : AB} {T : TN} (h : RfX w S Q vA vG vT lim A T) : RfY w S Q vA vG vT lim (A.map (·.1)) (A.map (·.2)) T :=
  ⟨h.blk, by rw [List.length_map]; exact h.pr.rA, by rw [List.length_map]; exact h.pr.rG, h.rT, h.sQ, h.pr.sA, h.pr.sG, h.sT, h.sb⟩
theorem RfY.toX {w : World} {S : Nat → Prop} {Q : Nat} {vA vG vT : Value} {lim : Int} {LA : List Lt} {LG : List Bool} {A : AB} {T : TN} (h : RfY w S Q vA vG vT lim LA LG T) (h1 : A.map (·.1) = LA) (h2 : A.map (·.2) = LG) : RfX w S Q vA vG vT lim A T := by
  subst h1
  subst h2
  refine ⟨h.blk, ⟨?_, ?_, h.sA, h.sG⟩, h.rT, h.sQ, h.sT, h.sb⟩
  · have := h.rA
    rw [List.length_map] at this
    exact this
  · have := h.rG
    rw [List.length_map] at this
    exact this
section
variable {w w' : World} {S : Nat → Prop} {Q : Nat} {vA vG vT : Value} {lim : Int} {LA : List Lt} {LG : List Bool} {T : TN}
theorem RfY.c0 (h : RfY w S Q vA vG vT lim LA LG T) : w.cell? ⟨Q, 0, none⟩ = some (.int .i64 lim) := by unfold World.cell?; rw [h.blk]; rfl
theorem RfY.c1 (h : RfY w S Q vA vG vT lim LA LG T) : w.cell? ⟨Q, 1, none⟩ = some vA := by unfold World.cell?; rw [h.blk]; rfl
theorem RfY.c2 (h : RfY w S Q vA vG vT lim LA LG T) : w.cell? ⟨Q, 2, none⟩ = some vG := by unfold World.cell?; rw [h.blk]; rfl
theorem RfY.c3 (h : RfY w S Q vA vG vT lim LA LG T) : w.cell? ⟨Q, 3, none⟩ = some vT := by unfold World.cell?; rw [h.blk]; rfl
theorem RfY.kp {U : Nat → Prop} (h : RfY w S Q vA vG vT lim LA LG T) (hk : Kp w w' U) (hd : ∀ k, S k → ¬ U k) : RfY w' S Q vA vG vT lim LA LG T :=
  ⟨(hk.block _ (blk_lt h.blk) (hd _ h.sQ)).trans h.blk, own_kp h.rA hk (fun k e => hd _ (h.sA k e)), own_kp h.rG hk (fun k e => hd _ (h.sG k e)), own_kp h.rT hk (fun k e => hd _ (h.sT k e)), h.sQ, h.sA, h.sG, h.sT, fun k e => Nat.lt_of_lt_of_le (h.sb k e) hk.size⟩
theorem RfY.alloc (h : RfY w S Q vA vG vT lim LA LG T) (o : Obj) : RfY (w.alloc o) S Q vA vG vT lim LA LG T := h.kp (Kp.of_below ((Below.refl _ w).alloc (Nat.le_refl _) o) non) (fun _ _ f => f)
end
theorem own_apart {w : World} {b1 b2 e1 e2 s1 s2 n1 n2 : Nat} {v1 v2 : Value} {x1 x2 : List Value} (h1 : w.ownsRow b1 e1 s1 v1 n1 x1) (h2 : w.ownsRow b2 e2 s2 v2 n2 x2) (hne : e1 ≠ e2) (k : Nat) (hk : v1.ownBlock = some k) : v2.ownBlock ≠ some k := by
  obtain ⟨c, hc⟩ := own_blk h1 hk
  exact own_ty h2 hc hne
theorem own_set {w : World} {b e s n Q j : Nat} {v u : Value} {xs : List Value} (h : w.ownsRow b e s v n xs) (hn : v.ownBlock ≠ some Q) : (w.setCell ⟨Q, j, none⟩ u).ownsRow b e s v n xs :=
  h.kept (row := some Q) ⟨rfl, rfl, rfl, by rw [World.size_setCell]; exact Nat.le_refl _, fun i _ hn => Below.heap_setCell _ _ _ i (fun e => hn (by rw [e]))⟩ (Or.inr hn)
theorem own_keep {w w' : World} {b e s n : Nat} {v : Value} {xs : List Value} {r : Option Nat} (h : w.ownsRow b e s v n xs) (g : w.grownBy w' r) (hn : ∀ k, v.ownBlock = some k → r ≠ some k) : w'.ownsRow b e s v n xs := by
  refine h.kept g ?_
  cases hv : v.ownBlock with
  | none => exact Or.inl rfl
  | some k => exact Or.inr (fun e => hn k hv e.symm)
theorem RfY.growA {X X1 : World} {S : Nat → Prop} {Q : Nat} {vA vG vT v' : Value} {lim : Int} {LA : List Lt} {LG : List Bool} {T : TN} {x : Lt} (h : RfY X S Q vA vG vT lim LA LG T) (o : X1.ownsRow 0 53 4 v' (LA.length + 1) (ltc LA ++ ltc [x])) (g : X.grownBy X1 vA.ownBlock) (hn : v'.ownBlock = vA.ownBlock ∨ v'.ownBlock = some X.heap.size) :
    X1.heap[Q]? = some (.cells #[.int .i64 lim, vA, vG, vT] 57) ∧ RfY (X1.setCell ⟨Q, 1, none⟩ v') (fun k => S k ∨ v'.ownBlock = some k) Q v' vG vT lim (LA ++ [x]) LG T ∧ Kp X (X1.setCell ⟨Q, 1, none⟩ v') S ∧ Nr X S (fun k => S k ∨ v'.ownBlock = some k) := by
  have nQ : ∀ {w : World} {e s n : Nat} {v : Value} {xs : List Value}, w.heap[Q]? = some (.cells #[.int .i64 lim, vA, vG, vT] 57) → w.ownsRow 0 e s v n xs → 57 ≠ e → v.ownBlock ≠ some Q := fun hb hr hne => own_ty hr hb hne
  have hQ := (g.block Q (blk_lt h.blk) (fun e => nQ h.blk h.rA (by decide) e.symm)).trans h.blk
  have nQ' : v'.ownBlock ≠ some Q := nQ hQ o (by decide)
  have hlt : ∀ k, v'.ownBlock = some k → k < X1.heap.size := fun k hk => by
    obtain ⟨cur, hc⟩ := own_blk o hk
    exact blk_lt hc
  refine ⟨hQ, ⟨heap_setCell _ _ _ _ _ _ _ hQ, ?_, ?_, ?_, Or.inl h.sQ, ?_, ?_, ?_, ?_⟩, ?_, ?_⟩
  · rw [ltc_append, List.length_append]
    exact own_set o nQ'
  · exact own_set (own_keep h.rG g (fun k e1 e2 => own_apart h.rG h.rA (by decide) k e1 e2)) (nQ h.blk h.rG (by decide))
  · exact own_set (own_keep h.rT g (fun k e1 e2 => own_apart h.rT h.rA (by decide) k e1 e2)) (nQ h.blk h.rT (by decide))
  · exact fun k e => Or.inr e
  · exact fun k e => Or.inl (h.sG k e)
  · exact fun k e => Or.inl (h.sT k e)
  · rintro k (e | e)
    · rw [World.size_setCell]; exact Nat.lt_of_lt_of_le (h.sb k e) g.size
    · rw [World.size_setCell]; exact hlt k e
  · exact ((Kp.of_grown g).mono (fun k e => h.sA k e.symm)).set (Or.inl h.sQ) 1 v'
  · rintro k (a | a)
    · exact Or.inl a
    · rcases hn with e | e
      · exact Or.inl (h.sA k (e.symm.trans a))
      · rw [e] at a; cases a; exact Or.inr (Nat.le_refl _)
theorem RfY.growG {X X1 : World} {S : Nat → Prop} {Q : Nat} {vA vG vT v' : Value} {lim : Int} {LA : List Lt} {LG : List Bool} {T : TN} {x : Bool} (h : RfY X S Q vA vG vT lim LA LG T) (o : X1.ownsRow 0 4 1 v' (LG.length + 1) (blc LG ++ blc [x])) (g : X.grownBy X1 vG.ownBlock) (hn : v'.ownBlock = vG.ownBlock ∨ v'.ownBlock = some X.heap.size) :
    X1.heap[Q]? = some (.cells #[.int .i64 lim, vA, vG, vT] 57) ∧ RfY (X1.setCell ⟨Q, 2, none⟩ v') (fun k => S k ∨ v'.ownBlock = some k) Q vA v' vT lim LA (LG ++ [x]) T ∧ Kp X (X1.setCell ⟨Q, 2, none⟩ v') S ∧ Nr X S (fun k => S k ∨ v'.ownBlock = some k) := by
  have nQ : ∀ {w : World} {e s n : Nat} {v : Value} {xs : List Value}, w.heap[Q]? = some (.cells #[.int .i64 lim, vA, vG, vT] 57) → w.ownsRow 0 e s v n xs → 57 ≠ e → v.ownBlock ≠ some Q := fun hb hr hne => own_ty hr hb hne
  have hQ := (g.block Q (blk_lt h.blk) (fun e => nQ h.blk h.rG (by decide) e.symm)).trans h.blk
  have nQ' : v'.ownBlock ≠ some Q := nQ hQ o (by decide)
  have hlt : ∀ k, v'.ownBlock = some k → k < X1.heap.size := fun k hk => by
    obtain ⟨cur, hc⟩ := own_blk o hk
    exact blk_lt hc
  refine ⟨hQ, ⟨heap_setCell _ _ _ _ _ _ _ hQ, ?_, ?_, ?_, Or.inl h.sQ, ?_, ?_, ?_, ?_⟩, ?_, ?_⟩
  · exact own_set (own_keep h.rA g (fun k e1 e2 => own_apart h.rA h.rG (by decide) k e1 e2)) (nQ h.blk h.rA (by decide))
  · rw [show blc (LG ++ [x]) = blc LG ++ blc [x] by simp [blc], List.length_append]
    exact own_set o nQ'
  · exact own_set (own_keep h.rT g (fun k e1 e2 => own_apart h.rT h.rG (by decide) k e1 e2)) (nQ h.blk h.rT (by decide))
  · exact fun k e => Or.inl (h.sA k e)
  · exact fun k e => Or.inr e
  · exact fun k e => Or.inl (h.sT k e)
  · rintro k (e | e)
    · rw [World.size_setCell]; exact Nat.lt_of_lt_of_le (h.sb k e) g.size
    · rw [World.size_setCell]; exact hlt k e
  · exact ((Kp.of_grown g).mono (fun k e => h.sG k e.symm)).set (Or.inl h.sQ) 2 v'
  · rintro k (a | a)
    · exact Or.inl a
    · rcases hn with e | e
      · exact Or.inl (h.sG k (e.symm.trans a))
      · rw [e] at a; cases a; exact Or.inr (Nat.le_refl _)
theorem RfY.growT {X X1 : World} {S : Nat → Prop} {Q : Nat} {vA vG vT v' : Value} {lim : Int} {LA : List Lt} {LG : List Bool} {T : TN} {x : Int × Int × Bool} (h : RfY X S Q vA vG vT lim LA LG T) (o : X1.ownsRow 0 90 3 v' (T.length + 1) (tnc T ++ tnc [x])) (g : X.grownBy X1 vT.ownBlock) (hn : v'.ownBlock = vT.ownBlock ∨ v'.ownBlock = some X.heap.size) :
    X1.heap[Q]? = some (.cells #[.int .i64 lim, vA, vG, vT] 57) ∧ RfY (X1.setCell ⟨Q, 3, none⟩ v') (fun k => S k ∨ v'.ownBlock = some k) Q vA vG v' lim LA LG (T ++ [x]) ∧ Kp X (X1.setCell ⟨Q, 3, none⟩ v') S ∧ Nr X S (fun k => S k ∨ v'.ownBlock = some k) := by
  have nQ : ∀ {w : World} {e s n : Nat} {v : Value} {xs : List Value}, w.heap[Q]? = some (.cells #[.int .i64 lim, vA, vG, vT] 57) → w.ownsRow 0 e s v n xs → 57 ≠ e → v.ownBlock ≠ some Q := fun hb hr hne => own_ty hr hb hne
  have hQ := (g.block Q (blk_lt h.blk) (fun e => nQ h.blk h.rT (by decide) e.symm)).trans h.blk
  have nQ' : v'.ownBlock ≠ some Q := nQ hQ o (by decide)
  have hlt : ∀ k, v'.ownBlock = some k → k < X1.heap.size := fun k hk => by
    obtain ⟨cur, hc⟩ := own_blk o hk
    exact blk_lt hc
  refine ⟨hQ, ⟨heap_setCell _ _ _ _ _ _ _ hQ, ?_, ?_, ?_, Or.inl h.sQ, ?_, ?_, ?_, ?_⟩, ?_, ?_⟩
  · exact own_set (own_keep h.rA g (fun k e1 e2 => own_apart h.rA h.rT (by decide) k e1 e2)) (nQ h.blk h.rA (by decide))
  · exact own_set (own_keep h.rG g (fun k e1 e2 => own_apart h.rG h.rT (by decide) k e1 e2)) (nQ h.blk h.rG (by decide))
  · rw [tnc_append, List.length_append]
    exact own_set o nQ'
  · exact fun k e => Or.inl (h.sA k e)
  · exact fun k e => Or.inl (h.sG k e)
  · exact fun k e => Or.inr e
  · rintro k (e | e)
    · rw [World.size_setCell]; exact Nat.lt_of_lt_of_le (h.sb k e) g.size
    · rw [World.size_setCell]; exact hlt k e
  · exact ((Kp.of_grown g).mono (fun k e => h.sT k e.symm)).set (Or.inl h.sQ) 3 v'
  · rintro k (a | a)
    · exact Or.inl a
    · rcases hn with e | e
      · exact Or.inl (h.sT k (e.symm.trans a))
      · rw [e] at a; cases a; exact Or.inr (Nat.le_refl _)
theorem infoB : (Try.prog.info? 4).map (fun i => (i.zero, i.size, i.bytes)) = some (some (.bool false), 1, 1) := by kernel_rfl
theorem infoTn : (Try.prog.info? 90).map (fun i => (i.zero, i.size, i.bytes)) = some (some (.agg #[.int .i64 0, .int .i64 0, .bool false]), 3, 24) := by kernel_rfl
theorem bl_cells (w : World) (b : Bool) : ∀ j u, (blc [b])[j]? = some u → (w.alloc (.cells #[.bool b] 4)).cell? ((⟨w.heap.size, 0, none⟩ : Addr).add j) = some u := by
  intro j u hj
  have e := heap_last w (.cells #[.bool b] 4)
  match j, hj with
  | 0, hj => simp [blc] at hj; subst hj; rw [Addr.add_mid]; unfold World.cell?; rw [e]; rfl
  | (j + 1), hj => simp [blc] at hj
theorem tn_cells (w : World) (t : Int × Int × Bool) : ∀ j u, (tnc [t])[j]? = some u → (w.alloc (.cells #[.int .i64 t.1, .int .i64 t.2.1, .bool t.2.2] 90)).cell? ((⟨w.heap.size, 0, none⟩ : Addr).add j) = some u := by
  intro j u hj
  have e := heap_last w (.cells #[.int .i64 t.1, .int .i64 t.2.1, .bool t.2.2] 90)
  match j, hj with
  | 0, hj => simp [tnc] at hj; subst hj; rw [Addr.add_mid]; unfold World.cell?; rw [e]; rfl
  | 1, hj => simp [tnc] at hj; subst hj; rw [Addr.add_mid]; unfold World.cell?; rw [e]; rfl
  | 2, hj => simp [tnc] at hj; subst hj; rw [Addr.add_mid]; unfold World.cell?; rw [e]; rfl
  | (j + 3), hj => simp [tnc] at hj
theorem Kp.al {w : World} (S : Nat → Prop) (o : Obj) : Kp w (w.alloc o) S := (Kp.refl w S).alloc o
set_option maxHeartbeats 8000000 in
set_option maxRecDepth 100000 in
set_option linter.unusedSimpArgs false in
set_option linter.unusedVariables false in
theorem sets_any {w : World} {S : Nat → Prop} {Q : Nat} {vA vG vT : Value} {lim : Int} {A : AB} {T : TN} (h : RfX w S Q vA vG vT lim A T) (hA : A.length ≤ 3298534883328) (a b : Int) (t : ByteArray) :
    Calls Try.prog 43 #[.pointer (some ⟨Q, 0, none⟩), .int .i64 a, .int .i64 b, .string t] w fun e w' => e = .returned (.int .i64 ((A.length : Int) + 1)) ∧ ∃ vA' vG' S', RfX w' S' Q vA' vG' vT lim (A ++ [(⟨(A.length : Int) + 1, a, b, t⟩, false)]) T ∧ Kp w w' S ∧ Nr w S S' := by
  obtain ⟨i0, hi0, hz0, hz1, hz2⟩ := info_parts4 infoLt
  obtain ⟨j0, hj0, hy0, hy1, hy2⟩ := info_parts4 infoB
  have HY := hide h.toY
  obtain ⟨ba, cap, rfl⟩ := own_sl h.pr.rA
  obtain ⟨bg, capg, rfl⟩ := own_sl h.pr.rG
  have c1 := h.c1
  have x1 : wrap64 ((A.length : Int) + 1) = (A.length : Int) + 1 := wrap_in (by omega) (by omega)
  have e1 : (A.map (·.1)).length = A.length := List.length_map _
  have e2 : (A.map (·.2)).length = A.length := List.length_map _
  have HE := hide (And.intro e1 e2)
  have hm1 : A.length + 1 ≤ maxLen := by unfold maxLen; omega
  have hm2 : (A.length + 1) * 40 ≤ 140737488355328 := by omega
  have hm3 : (A.length + 1) * 1 ≤ 140737488355328 := by omega
  have hrA : Hid ((w.alloc (.cells #[.int .i64 ((A.length : Int) + 1), .int .i64 a, .int .i64 b, .string t] 53)).ownsRow 0 53 4 (.slice ba A.length cap) A.length (ltc (A.map (·.1)))) := h.pr.rA.alloc _
  clear h e1 e2
  go_enter Try.func43, Try.ntmps43
  go_upto_region 3 with (at_builtin; refine wpList_append_own_at _ rfl _ _ 36 rfl 0 53 i0 _ 4 40 Try.underlying36 hi0 hz0 hz1 hz2 rfl (by decide) _ _ _ rfl hrA.out ⟨w.heap.size, 0, none⟩ 1 1 (ltc [⟨(A.length : Int) + 1, a, b, t⟩]) rfl rfl (lt_cells (heap_last w _)) (ltc_one _) hm1 hm2 (Nat.zero_le _) ?_; intro v2 w2 o2 g2 n2 a2; clear n2; obtain ⟨hQ2, HY2, K2, N2⟩ := (HY.out.alloc _).growA (by rw [HE.out.1]; exact o2) g2 a2; obtain ⟨g2', cap2, hv2⟩ := own_g o2 (by omega); subst hv2; have k1 : w2.cell? ⟨Q, 1, none⟩ = some (.slice ba A.length cap) := (by unfold World.cell?; rw [hQ2]; rfl); have z1 : w2.frozen? ⟨Q, 1, none⟩ = false := (by unfold World.frozen?; rw [hQ2]; simp); clear o2 g2 a2 hQ2)
  have H2 := hide HY2
  have KN2 : Hid (Kp w (w2.setCell ⟨Q, 1, none⟩ (.slice (some ⟨g2', 0, none⟩) (A.length + 1) cap2)) S ∧ Nr w S (fun k => S k ∨ (Value.slice (some ⟨g2', 0, none⟩) (A.length + 1) cap2).ownBlock = some k)) := ⟨(Kp.al S _).trans K2 (fun k e => Or.inl e), fun k e => by rcases N2 k e with a | a; exact Or.inl a; simp only [World.size_alloc] at a; exact Or.inr (by omega)⟩
  clear HY2 K2 N2 k1 z1 HY hrA c1
  generalize w2.setCell ⟨Q, 1, none⟩ (.slice (some ⟨g2', 0, none⟩) (A.length + 1) cap2) = W3 at *
  have d2 := H2.out.c2
  have hrG : Hid ((W3.alloc (.cells #[.bool false] 4)).ownsRow 0 4 1 (.slice bg A.length capg) A.length (blc (A.map (·.2)))) := by
    have := H2.out.rG
    rw [HE.out.2] at this
    exact this.alloc _
  go_wp2_with (at_builtin; refine wpList_append_own_at _ rfl _ _ 54 rfl 0 4 j0 _ 1 1 Try.underlying54 hj0 hy0 hy1 hy2 rfl (by decide) _ _ _ rfl hrG.out ⟨W3.heap.size, 0, none⟩ 1 1 (blc [false]) rfl rfl (bl_cells W3 false) (blc_one _) hm1 hm3 (Nat.zero_le _) ?_; intro v4 w4 o4 g4 n4 a4; clear n4; obtain ⟨hQ4, HY4, K4, N4⟩ := (H2.out.alloc _).growG (by rw [HE.out.2]; exact o4) g4 a4; obtain ⟨g4', cap4, hv4⟩ := own_g o4 (by omega); subst hv4; have k2 : w4.cell? ⟨Q, 2, none⟩ = some (.slice bg A.length capg) := (by unfold World.cell?; rw [hQ4]; rfl); have z2 : w4.frozen? ⟨Q, 2, none⟩ = false := (by unfold World.frozen?; rw [hQ4]; simp); clear o4 g4 a4 hQ4)
  go_ret
  have b3 := KN2.out.1.size
  refine ⟨rfl, _, _, _, HY4.toX (by simp) (by simp), KN2.out.1.trans ((Kp.al _ _).trans K4 (fun k e => Or.inl e)) (fun k e => KN2.out.2 k e), fun k e => ?_⟩
  rcases N4 k e with a | a
  · exact KN2.out.2 k a
  · simp only [World.size_alloc] at a
    exact Or.inr (by omega)
def turnT (T : TN) (a b : Int) (c : Bool) : TN := if ckE a b = 0 then T ++ [(a, b, c)] else T
set_option maxHeartbeats 8000000 in
set_option maxRecDepth 100000 in
set_option linter.unusedSimpArgs false in
set_option linter.unusedVariables false in
theorem turn_nil (a b : Int) (c : Bool) (w : World) : Calls Try.prog 49 #[.pointer none, .int .i64 a, .int .i64 b, .bool c] w fun e w' => e = .returned (.int .i64 2) ∧ w = w' := by
  go_enter Try.func49, Try.ntmps49
  go_wp2_with fail
  go_ret
  exact ⟨rfl, rfl⟩
set_option maxHeartbeats 8000000 in
set_option maxRecDepth 100000 in
set_option linter.unusedSimpArgs false in
set_option linter.unusedVariables false in
theorem turn_bad (Q : Nat) (a b : Int) (c : Bool) (w : World) (he : ckE a b = 1) : Calls Try.prog 49 #[.pointer (some ⟨Q, 0, none⟩), .int .i64 a, .int .i64 b, .bool c] w fun e w' => e = .returned (.int .i64 1) ∧ w = w' := by
  have hn : ¬ (adr a = true ∧ adr b = true ∧ a ≠ b) := fun h => by
    unfold ckE at he
    rw [if_pos h] at he
    simp at he
  clear he
  by_cases ea : adr a = true
  case neg =>
    rw [Bool.not_eq_true] at ea
    clear hn
    go_enter Try.func49, Try.ntmps49
    go_wp2_with (go_at_call 41; refine Calls.mono (address_any _ _) ?_; rintro e w1 ⟨rfl, rfl⟩)
    go_ret
    exact ⟨rfl, rfl⟩
  by_cases eb : adr b = true
  case neg =>
    rw [Bool.not_eq_true] at eb
    clear hn
    go_enter Try.func49, Try.ntmps49
    go_wp2_with (go_at_call 41; refine Calls.mono (address_any _ _) ?_; rintro e w1 ⟨rfl, rfl⟩)
    go_ret
    exact ⟨rfl, rfl⟩
  have hab : a = b := Decidable.byContradiction fun h => hn ⟨ea, eb, h⟩
  subst hab
  clear hn
  go_enter Try.func49, Try.ntmps49
  go_wp2_with (go_at_call 41; refine Calls.mono (address_any _ _) ?_; rintro e w1 ⟨rfl, rfl⟩)
  go_ret
  exact ⟨rfl, rfl⟩
set_option maxHeartbeats 8000000 in
set_option maxRecDepth 100000 in
set_option linter.unusedSimpArgs false in
set_option linter.unusedVariables false in
theorem turn_ok {w : World} {S : Nat → Prop} {Q : Nat} {vA vG vT : Value} {lim : Int} {A : AB} {T : TN} (h : RfX w S Q vA vG vT lim A T) (hT : T.length ≤ 3298534883328) (a b : Int) (c : Bool) (he : ckE a b = 0) :
    Calls Try.prog 49 #[.pointer (some ⟨Q, 0, none⟩), .int .i64 a, .int .i64 b, .bool c] w fun e w' => e = .returned (.int .i64 0) ∧ ∃ vT' S', RfX w' S' Q vA vG vT' lim A (T ++ [(a, b, c)]) ∧ Kp w w' S ∧ Nr w S S' := by
  have hn : adr a = true ∧ adr b = true ∧ a ≠ b := by
    unfold ckE at he
    split at he
    · assumption
    · simp at he
  obtain ⟨ea, eb, hab⟩ := hn
  have hab2 : (a == b) = false := by simp [hab]
  clear he hab
  obtain ⟨i0, hi0, hz0, hz1, hz2⟩ := info_parts4 infoTn
  have HY := hide h.toY
  obtain ⟨ba, cap, rfl⟩ := own_sl h.rT
  have c3 := h.c3
  have hm1 : T.length + 1 ≤ maxLen := by unfold maxLen; omega
  have hm2 : (T.length + 1) * 24 ≤ 140737488355328 := by omega
  have hrT : Hid ((w.alloc (.cells #[.int .i64 a, .int .i64 b, .bool c] 90)).ownsRow 0 90 3 (.slice ba T.length cap) T.length (tnc T)) := h.rT.alloc _
  clear h
  go_enter Try.func49, Try.ntmps49
  go_wp2_with (first | (go_at_call 41; refine Calls.mono (address_any _ _) ?_; rintro e w1 ⟨rfl, rfl⟩) | (at_builtin; refine wpList_append_own_at _ rfl _ _ 55 rfl 0 90 i0 _ 3 24 Try.underlying55 hi0 hz0 hz1 hz2 rfl (by decide) _ _ _ rfl hrT.out ⟨w.heap.size, 0, none⟩ 1 1 (tnc [(a, b, c)]) rfl rfl (tn_cells w (a, b, c)) (tnc_one _) hm1 hm2 (Nat.zero_le _) ?_; intro v4 w4 o4 g4 n4 a4; clear n4; obtain ⟨hQ4, HY4, K4, N4⟩ := (HY.out.alloc _).growT o4 g4 a4; obtain ⟨g4', cap4, hv4⟩ := own_g o4 (by omega); subst hv4; have k2 : w4.cell? ⟨Q, 3, none⟩ = some (.slice ba T.length cap) := (by unfold World.cell?; rw [hQ4]; rfl); have z2 : w4.frozen? ⟨Q, 3, none⟩ = false := (by unfold World.frozen?; rw [hQ4]; simp); clear o4 g4 a4 hQ4))
  go_ret
  refine ⟨rfl, _, _, HY4.toX rfl rfl, (Kp.al S _).trans K4 (fun k e => Or.inl e), fun k e => ?_⟩
  rcases N4 k e with a | a
  · exact Or.inl a
  · simp only [World.size_alloc] at a
    exact Or.inr (by omega)
end Go.Proofs.Ytnphdbmacccblab
