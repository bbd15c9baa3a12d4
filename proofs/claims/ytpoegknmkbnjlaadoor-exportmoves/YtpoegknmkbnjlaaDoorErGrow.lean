import Derived.Test.YtpoegknmkbnjlaaDoorGErAsk
namespace Go.Proofs.YtpoegknmkbnjlaaDoor.Cn
open Go.RowKit
def rdgR (r : Rx) (q : Pr) : Rx := { r with rd := r.rd ++ [q] }
def ofgR (r : Rx) (k : Int) : Rx := { r with of_ := r.of_ ++ [k] }
theorem rdg_lr {w w' : World} {Y : Nat} {r : Rx} {Z : Zr} (h : RxAt w Y r Z) (hon : r.on = true) (q : Pr) (u : Value) (ho : w'.ownsRow 0 89 2 u (r.rd.length + 1) (prs (r.rd ++ [q]))) (hg : w.grownBy w' Z.rd.ownBlock) (hn : u.ownBlock = Z.rd.ownBlock ∨ u.ownBlock = some w.heap.size) :
    w'.heap[Y]? = some (.cells (rxA r Z) 76) ∧ Lr w (w'.setCell ⟨Y, 10, none⟩ u) Y Z (rdgR r q) { Z with rd := u } := by
  have kg := Kp.of_grown hg
  have nY : ∀ k, some k = Z.rd.ownBlock → k ≠ Y := fun k e => h.ow.notY h.blk (Or.inl e.symm)
  have b1 : w'.heap[Y]? = some (.cells (rxA r Z) 76) := (kg.block _ (blk_lt h.blk) (fun e => nY Y e rfl)).trans h.blk
  have kk : Kp w (w'.setCell ⟨Y, 10, none⟩ u) (Fr Y Z) := (kg.mono (T := Fr Y Z) (fun k e => Or.inr (Or.inl e.symm))).set (Or.inl (Or.inl rfl)) _ _
  have ks : Kp w' (w'.setCell ⟨Y, 10, none⟩ u) (fun k => k = Y) := (Kp.refl w' (fun k => k = Y)).set (Or.inl rfl) _ _
  have hx := h.ow
  have old : ∀ {k : Nat}, Lk Z k → k < w.heap.size := fun hk => h.lt (Or.inr hk)
  have off : ∀ {e sz n : Nat} {v : Value} {xs : List Value}, w.ownsRow 0 e sz v n xs → (∀ k, v.ownBlock = some k → Lk Z k) → (∀ k, v.ownBlock = some k → Z.rd.ownBlock ≠ some k) → (w'.setCell ⟨Y, 10, none⟩ u).ownsRow 0 e sz v n xs := fun ho' h0 h1 => own_kp (own_kp ho' kg (fun k e s => h1 k e s.symm)) ks (fun k e s => hx.notY h.blk (h0 k e) s)
  have nI : ∀ {v : Value} {n : Nat} {xs : List Value}, w.ownsRow 0 3 1 v n xs → ∀ k, v.ownBlock = some k → Z.rd.ownBlock ≠ some k := fun ho' k e s => by
    obtain ⟨c1, h1⟩ := own_typ ho' e
    obtain ⟨c2, h2⟩ := own_typ hx.rd s
    rw [h1] at h2
    simp at h2
  have nR : ∀ k, Z.rv.ownBlock = some k → Z.rd.ownBlock ≠ some k := fun k e s => by
    obtain ⟨c1, h1⟩ := own_typ hx.rows e
    obtain ⟨c2, h2⟩ := own_typ hx.rd s
    rw [h1] at h2
    simp at h2
  have uN : ∀ k, u.ownBlock = some k → Z.rd.ownBlock = some k ∨ w.heap.size ≤ k := fun k e => by
    rcases hn with s | s
    · exact Or.inl (s.symm.trans e)
    · rw [e] at s
      injection s with s
      exact Or.inr (by omega)
  refine ⟨b1, ⟨⟨set_row b1 10 _, ⟨off hx.rows (fun k e => Or.inr (Or.inr (Or.inr (Or.inl e)))) nR, fun p hp => ?_, ?_, off hx.ofv (fun k e => Or.inr (Or.inl e)) (nI hx.ofv), off hx.lo (fun k e => Or.inr (Or.inr (Or.inl e))) (nI hx.lo), off hx.lp (fun k e => Or.inr (Or.inr (Or.inr (Or.inr (Or.inl e))))) (fun k e s => hx.d1 hon k s e), off hx.lm (fun k e => Or.inr (Or.inr (Or.inr (Or.inr (Or.inr (Or.inl e)))))) (nI hx.lm), fun _ k e s => ?_, fun _ => hx.d2 hon, fun _ => hx.d3 hon⟩⟩, kk, fun k e => ?_, fun k e => ?_⟩⟩
  · obtain ⟨u0, hu0, ho0⟩ := hx.row p hp
    have hm := List.mem_of_getElem? hu0
    exact ⟨u0, hu0, off ho0 (fun k e => Or.inr (Or.inr (Or.inr (Or.inr (Or.inr (Or.inr ⟨u0, hm, e⟩)))))) (nI ho0)⟩
  · show World.ownsRow _ 0 89 2 u (r.rd ++ [q]).length _
    rw [List.length_append]
    refine own_kp ho ks (fun k e s => ?_)
    obtain ⟨c, hc⟩ := own_typ ho e
    rw [s, b1] at hc
    simp at hc
  · have e : u.ownBlock = some k := e
    rcases uN k e with z | z
    · exact hx.d1 hon k z s
    · have := old (k := k) (Or.inr (Or.inr (Or.inr (Or.inr (Or.inl s)))))
      omega
  · rcases e with e | e | e | e
    · exact Or.inl (Or.inl e)
    · rcases uN k e with z | z
      · exact Or.inl (Or.inr (Or.inl z))
      · exact Or.inr z
    · exact Or.inl (Or.inr (Or.inr (Or.inl e)))
    · exact Or.inl (Or.inr (Or.inr (Or.inr e)))
  · rcases e with e | e | e
    · exact Or.inl (Or.inl e)
    · rcases uN k e with z | z
      · exact Or.inl (Or.inr (Or.inl z))
      · exact Or.inr z
    · exact Or.inl (Or.inr (Or.inr e))
theorem ofg_lr {w w' : World} {Y : Nat} {r : Rx} {Z : Zr} (h : RxAt w Y r Z) (hon : r.on = true) (q : Int) (u : Value) (ho : w'.ownsRow 0 3 1 u (r.of_.length + 1) (ints (r.of_ ++ [q]))) (hg : w.grownBy w' Z.ofv.ownBlock) (hn : u.ownBlock = Z.ofv.ownBlock ∨ u.ownBlock = some w.heap.size) :
    w'.heap[Y]? = some (.cells (rxA r Z) 76) ∧ Lr w (w'.setCell ⟨Y, 11, none⟩ u) Y Z (ofgR r q) { Z with ofv := u } := by
  have kg := Kp.of_grown hg
  have nY : ∀ k, some k = Z.ofv.ownBlock → k ≠ Y := fun k e => h.ow.notY h.blk (Or.inr (Or.inl e.symm))
  have b1 : w'.heap[Y]? = some (.cells (rxA r Z) 76) := (kg.block _ (blk_lt h.blk) (fun e => nY Y e rfl)).trans h.blk
  have kk : Kp w (w'.setCell ⟨Y, 11, none⟩ u) (Fr Y Z) := (kg.mono (T := Fr Y Z) (fun k e => Or.inr (Or.inr (Or.inl e.symm)))).set (Or.inl (Or.inl rfl)) _ _
  have ks : Kp w' (w'.setCell ⟨Y, 11, none⟩ u) (fun k => k = Y) := (Kp.refl w' (fun k => k = Y)).set (Or.inl rfl) _ _
  have hx := h.ow
  have old : ∀ {k : Nat}, Lk Z k → k < w.heap.size := fun hk => h.lt (Or.inr hk)
  have off : ∀ {e sz n : Nat} {v : Value} {xs : List Value}, w.ownsRow 0 e sz v n xs → (∀ k, v.ownBlock = some k → Lk Z k) → (∀ k, v.ownBlock = some k → Z.ofv.ownBlock ≠ some k) → (w'.setCell ⟨Y, 11, none⟩ u).ownsRow 0 e sz v n xs := fun ho' h0 h1 => own_kp (own_kp ho' kg (fun k e s => h1 k e s.symm)) ks (fun k e s => hx.notY h.blk (h0 k e) s)
  have nP : ∀ {v : Value} {n : Nat} {xs : List Value}, w.ownsRow 0 89 2 v n xs → ∀ k, v.ownBlock = some k → Z.ofv.ownBlock ≠ some k := fun ho' k e s => by
    obtain ⟨c1, h1⟩ := own_typ ho' e
    obtain ⟨c2, h2⟩ := own_typ hx.ofv s
    rw [h1] at h2
    simp at h2
  have nR : ∀ k, Z.rv.ownBlock = some k → Z.ofv.ownBlock ≠ some k := fun k e s => by
    obtain ⟨c1, h1⟩ := own_typ hx.rows e
    obtain ⟨c2, h2⟩ := own_typ hx.ofv s
    rw [h1] at h2
    simp at h2
  have uN : ∀ k, u.ownBlock = some k → Z.ofv.ownBlock = some k ∨ w.heap.size ≤ k := fun k e => by
    rcases hn with s | s
    · exact Or.inl (s.symm.trans e)
    · rw [e] at s
      injection s with s
      exact Or.inr (by omega)
  refine ⟨b1, ⟨⟨set_row b1 11 _, ⟨off hx.rows (fun k e => Or.inr (Or.inr (Or.inr (Or.inl e)))) nR, fun p hp => ?_, off hx.rd (fun k e => Or.inl e) (nP hx.rd), ?_, off hx.lo (fun k e => Or.inr (Or.inr (Or.inl e))) (fun k e s => (hx.d2 hon k s).1 e), off hx.lp (fun k e => Or.inr (Or.inr (Or.inr (Or.inr (Or.inl e))))) (nP hx.lp), off hx.lm (fun k e => Or.inr (Or.inr (Or.inr (Or.inr (Or.inr (Or.inl e)))))) (fun k e s => (hx.d2 hon k s).2.1 e), fun _ => hx.d1 hon, fun _ k e => ?_, fun _ => hx.d3 hon⟩⟩, kk, fun k e => ?_, fun k e => ?_⟩⟩
  · obtain ⟨u0, hu0, ho0⟩ := hx.row p hp
    have hm := List.mem_of_getElem? hu0
    exact ⟨u0, hu0, off ho0 (fun k e => Or.inr (Or.inr (Or.inr (Or.inr (Or.inr (Or.inr ⟨u0, hm, e⟩)))))) (fun k e s => (hx.d2 hon k s).2.2 u0 hm e)⟩
  · show World.ownsRow _ 0 3 1 u (r.of_ ++ [q]).length _
    rw [List.length_append]
    refine own_kp ho ks (fun k e s => ?_)
    obtain ⟨c, hc⟩ := own_typ ho e
    rw [s, b1] at hc
    simp at hc
  · have e : u.ownBlock = some k := e
    rcases uN k e with z | z
    · exact hx.d2 hon k z
    · refine ⟨fun s => ?_, fun s => ?_, fun u0 hu s => ?_⟩
      · have := old (k := k) (Or.inr (Or.inr (Or.inl s)))
        omega
      · have := old (k := k) (Or.inr (Or.inr (Or.inr (Or.inr (Or.inr (Or.inl s))))))
        omega
      · have := old (k := k) (Or.inr (Or.inr (Or.inr (Or.inr (Or.inr (Or.inr ⟨u0, hu, s⟩))))))
        omega
  · rcases e with e | e | e | e
    · exact Or.inl (Or.inl e)
    · exact Or.inl (Or.inr (Or.inl e))
    · rcases uN k e with z | z
      · exact Or.inl (Or.inr (Or.inr (Or.inl z)))
      · exact Or.inr z
    · exact Or.inl (Or.inr (Or.inr (Or.inr e)))
  · rcases e with e | e | e | e
    · exact Or.inl (Or.inl e)
    · exact Or.inl (Or.inr (Or.inl e))
    · rcases uN k e with z | z
      · exact Or.inl (Or.inr (Or.inr (Or.inl z)))
      · exact Or.inr z
    · exact Or.inl (Or.inr (Or.inr (Or.inr e)))
end Go.Proofs.YtpoegknmkbnjlaaDoor.Cn
