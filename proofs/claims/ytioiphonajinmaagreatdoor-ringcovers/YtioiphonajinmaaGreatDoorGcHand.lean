import Derived.Test.YtioiphonajinmaaGreatDoorGGcApp
namespace Go.Proofs.YtioiphonajinmaaGreatDoor
open Go.RowKit
theorem mark_cells (w : World) : ∀ j u, (ints [701, 702, 703])[j]? = some u → (w.alloc (.cells #[.int .i64 701, .int .i64 702, .int .i64 703] 3)).cell? ((⟨w.heap.size, 0, none⟩ : Addr).add j) = some u := by
  intro j u hj
  have e := heap_last w (.cells #[.int .i64 701, .int .i64 702, .int .i64 703] 3)
  match j, hj with
  | 0, hj => simp [ints] at hj; subst hj; rw [add_pl]; unfold World.cell?; rw [e]; rfl
  | 1, hj => simp [ints] at hj; subst hj; rw [add_pl]; unfold World.cell?; rw [e]; rfl
  | 2, hj => simp [ints] at hj; subst hj; rw [add_pl]; unfold World.cell?; rw [e]; rfl
  | (j + 3), hj => simp [ints] at hj
theorem sl_cells (w : World) (v : Value) : ∀ j u, [v][j]? = some u → (w.alloc (.cells #[v] 22)).cell? ((⟨w.heap.size, 0, none⟩ : Addr).add j) = some u := cell_one_new w v 22
theorem own_some {w : World} {base sz n : Nat} {e : TypeId} {v : Value} {xs : List Value} (h : w.ownsRow base e sz v n xs) (hn : 0 < n) : ∃ g cap, v = .slice (some ⟨g, 0, none⟩) n cap := by
  rcases h.2 with ⟨hv, hz⟩ | ⟨g, cap, cur, hv, _⟩
  · omega
  · exact ⟨_, _, hv⟩
set_option maxRecDepth 100000 in
theorem run_cut (w : World) (g n k c : Nat) (hk : k ≤ c) : (Instr.sliceAt 22 (.slice (some ⟨g, 0, none⟩) n c) none (some (.int .i64 (k : Int))) none).run Tryz.prog w = .ok (.slice (some ⟨g, 0, none⟩) k c) w := by
  have h1 : (k : Int) ≤ (c : Int) := by omega
  have h2 : (0 : Int) ≤ (k : Int) := by omega
  go_simp
theorem exec_cut {ρ : Operand → Value} {op : Oper} {w : World} {g n k c : Nat} (hk : k ≤ c) (x y : Operand) (ho : op.op = .slice 22 x none (some y) none) (hx : ρ x = .slice (some ⟨g, 0, none⟩) n c) (hy : ρ y = .int .i64 (k : Int)) : (execOp ρ op).run Tryz.prog w = .ok (.value (.slice (some ⟨g, 0, none⟩) k c)) w := by
  unfold execOp
  simp only [ho, hx, hy, Option.map_none, Option.map_some, Sem.run_bind, run_cut w g n k c hk, Result.andThen_ok, Sem.run_pure]
theorem own_cap {w : World} {base sz n m c : Nat} {ba : Option Addr} {e : TypeId} {xs : List Value} (h : w.ownsRow base e sz (.slice ba m c) n xs) : n ≤ c := by
  rcases h.2 with ⟨hv, hz⟩ | ⟨g, cap, cur, hv, _, _, hc, _⟩
  · omega
  · simp only [Value.slice.injEq] at hv
    omega
theorem own_lower {w : World} {base b' sz n : Nat} {e : TypeId} {v : Value} {xs : List Value} (h : w.ownsRow base e sz v n xs) (hb : b' ≤ base) : w.ownsRow b' e sz v n xs := by
  refine ⟨h.1, ?_⟩
  rcases h.2 with e | ⟨g, cap, cur, hv, hg, hr⟩
  · exact Or.inl e
  · exact Or.inr ⟨g, cap, cur, hv, Nat.le_trans hb hg, hr⟩
theorem Tw.lower {base b' : Nat} {W : World} {ns : List ND} {vl : Value} {zs : List (Int × Value)} (h : Tw base W ns vl zs) (hb : b' ≤ base) : Tw b' W ns vl zs := ⟨own_lower h.row hb, h.z, fun q hq hq' => own_lower (h.p q hq hq') hb⟩
theorem own_setH {w : World} {base sz n H j : Nat} {e : TypeId} {v u : Value} {xs : List Value} (h : w.ownsRow base e sz v n xs) (hH : H < base) : (w.setCell ⟨H, j, none⟩ u).ownsRow base e sz v n xs :=
  own_keep h fun g hg => Below.heap_setCell _ _ _ g (fun e => by have := (own_lt h hg).1; simp at e; omega)
/-- one node more -/
theorem Hn.step {base H : Nat} {W X3 X5 X8 : World} {ns : List ND} {vn vp vn' vp' v2 : Value} {zs : List (Int × Value)} {ls : List Value} {g c : Nat} (h : Hn base W ns vn vp zs ls) (hi : zs.length < ns.length) (hH : H < base) (b3 : Below W.heap.size W X3) (hv2 : v2 = .slice (some ⟨g, 0, none⟩) (ns[zs.length].ps.length + 3) c) (o2 : X3.ownsRow base 3 1 v2 (ns[zs.length].ps.length + 3) (ints (ns[zs.length].ps ++ [701, 702, 703])))
    (o5 : X5.ownsRow base 22 1 vp' (ls.length + 1) (ls ++ [v2])) (g5 : (X3.alloc (.cells #[v2] 22)).grownBy X5 vp.ownBlock)
    (o8 : X8.ownsRow base 53 2 vn' (zs.length + 1) (ndc zs ++ ndc [(ns[zs.length].z, .slice (some ⟨g, 0, none⟩) ns[zs.length].ps.length c)])) (g8 : ((X5.setCell ⟨H, 47, none⟩ vp').alloc (.cells #[.int .i64 ns[zs.length].z, .slice (some ⟨g, 0, none⟩) ns[zs.length].ps.length c] 53)).grownBy X8 vn.ownBlock) :
    Hn base (X8.setCell ⟨H, 46, none⟩ vn') ns vn' vp' (zs ++ [(ns[zs.length].z, .slice (some ⟨g, 0, none⟩) ns[zs.length].ps.length c)]) (ls ++ [v2]) := by
  have h3 := h.keep (W' := X3) fun g _ hg => b3.block g hg
  have b4 : Below X3.heap.size X3 (X3.alloc (.cells #[v2] 22)) := (Below.refl _ _).alloc (Nat.le_refl _) _
  have h4 := h3.keep (W' := X3.alloc (.cells #[v2] 22)) fun g _ hg => b4.block g hg
  have o4 := own_keep (X' := X3.alloc (.cells #[v2] 22)) o2 fun g hg => b4.block g (own_lt o2 hg).2
  have m : ∀ {t : TypeId} {sz n : Nat} {v : Value} {xs : List Value}, t ≠ 22 → t ≠ 53 → (X3.alloc (.cells #[v2] 22)).ownsRow base t sz v n xs → (X8.setCell ⟨H, 46, none⟩ vn').ownsRow base t sz v n xs := fun {t} {sz} {n} {v} {xs} t1 t2 hr => by
    have r5 := own_grown hr g5 (fun g hg e => own_apart hr h4.rp t1 g hg e)
    have r6 := own_setH (j := 47) (u := vp') r5 hH
    have b7 : Below (X5.setCell ⟨H, 47, none⟩ vp').heap.size (X5.setCell ⟨H, 47, none⟩ vp') ((X5.setCell ⟨H, 47, none⟩ vp').alloc (.cells #[.int .i64 ns[zs.length].z, .slice (some ⟨g, 0, none⟩) ns[zs.length].ps.length c] 53)) := (Below.refl _ _).alloc (Nat.le_refl _) _
    have r7 := own_keep r6 fun g hg => b7.block g (own_lt r6 hg).2
    have n5 := own_grown h4.rn g5 (fun g hg e => own_apart h4.rn h4.rp (by decide) g hg e)
    have n6 := own_setH (j := 47) (u := vp') n5 hH
    have n7 := own_keep n6 fun g hg => b7.block g (own_lt n6 hg).2
    have r8 := own_grown r7 g8 (fun g hg e => own_apart r7 n7 t2 g hg e)
    exact own_setH (j := 46) (u := vn') r8 hH
  have p8 : (X8.setCell ⟨H, 46, none⟩ vn').ownsRow base 22 1 vp' (ls.length + 1) (ls ++ [v2]) := by
    have r6 := own_setH (j := 47) (u := vp') o5 hH
    have b7 : Below (X5.setCell ⟨H, 47, none⟩ vp').heap.size (X5.setCell ⟨H, 47, none⟩ vp') ((X5.setCell ⟨H, 47, none⟩ vp').alloc (.cells #[.int .i64 ns[zs.length].z, .slice (some ⟨g, 0, none⟩) ns[zs.length].ps.length c] 53)) := (Below.refl _ _).alloc (Nat.le_refl _) _
    have r7 := own_keep r6 fun g hg => b7.block g (own_lt r6 hg).2
    have n5 := own_grown h4.rn g5 (fun g hg e => own_apart h4.rn h4.rp (by decide) g hg e)
    have n6 := own_setH (j := 47) (u := vp') n5 hH
    have n7 := own_keep n6 fun g hg => b7.block g (own_lt n6 hg).2
    exact own_setH (j := 46) (u := vn') (own_grown r7 g8 (fun g hg e => own_apart r7 n7 (by decide) g hg e)) hH
  refine ⟨by simp [h.len], ?_, ?_, fun q hq hq' => ?_, fun q hq h1 hq' => ?_⟩
  · rw [List.length_append, ndc_append]
    exact own_setH o8 hH
  · rw [List.length_append]
    exact p8
  · by_cases hql : q < zs.length
    · rw [List.getElem_append_left hql]
      exact h.z q hql hq'
    · have hqe : q = zs.length := by simp at hq; omega
      subst hqe
      simp
  · by_cases hql : q < zs.length
    · have hql1 : q < ls.length := by have := h.len; omega
      obtain ⟨g', c', e1, e2, oo⟩ := h4.l q hql hql1 hq'
      refine ⟨g', c', ?_, ?_, ?_⟩
      · rw [List.getElem_append_left hql]; exact e1
      · rw [List.getElem_append_left hql1]; exact e2
      · rw [List.getElem_append_left hql1]
        exact m (by decide) (by decide) oo
    · have hqe : q = zs.length := by simp at hq; omega
      subst hqe
      have hle := h.len
      refine ⟨g, c, by simp, ?_, ?_⟩
      · rw [List.getElem_append_right (by omega)]
        simp [hle, hv2]
      · rw [List.getElem_append_right (by omega)]
        simp only [hle, Nat.sub_self, List.getElem_cons_zero]
        exact m (by decide) (by decide) o4
def mk2 : List (Int × Value) := [(801, .slice none 0 0), (802, .slice none 0 0)]
theorem mk2_cells (w : World) : ∀ j u, (ndc mk2)[j]? = some u → (w.alloc (.cells #[.int .i64 801, .slice none 0 0, .int .i64 802, .slice none 0 0] 53)).cell? ((⟨w.heap.size, 0, none⟩ : Addr).add j) = some u := by
  intro j u hj
  have e := heap_last w (.cells #[.int .i64 801, .slice none 0 0, .int .i64 802, .slice none 0 0] 53)
  match j, hj with
  | 0, hj => simp [ndc, mk2] at hj; subst hj; rw [add_pl]; unfold World.cell?; rw [e]; rfl
  | 1, hj => simp [ndc, mk2] at hj; subst hj; rw [add_pl]; unfold World.cell?; rw [e]; rfl
  | 2, hj => simp [ndc, mk2] at hj; subst hj; rw [add_pl]; unfold World.cell?; rw [e]; rfl
  | 3, hj => simp [ndc, mk2] at hj; subst hj; rw [add_pl]; unfold World.cell?; rw [e]; rfl
  | (j + 4), hj => simp [ndc, mk2] at hj
theorem mk2_one : ∀ u ∈ ndc mk2, u.oneCell' = true := by
  intro u hu
  simp [ndc, mk2] at hu
  rcases hu with rfl | rfl | rfl | rfl <;> rfl
end Go.Proofs.YtioiphonajinmaaGreatDoor
