import Derived.Test.YtfcghfllhcjmnaaDoorRows
import Derived.Test.YtfcghfllhcjmnaaDoorDkKnown
import Derived.Lib.LaidTab
import Derived.Lib.LaidU8
namespace Go.Proofs.YtfcghfllhcjmnaaDoor
open Go.RowKit Go.Lib
theorem gName0 : Tryd.prog.globalNamed Rows.digestKnownRow.laid[0].1 = some 0 := by kernel_rfl
theorem gName1 : Tryd.prog.globalNamed Rows.digestKnownRow.laid[1].1 = some 1 := by kernel_rfl
theorem gName2 : Tryd.prog.globalNamed Rows.digestKnownRow.laid[2].1 = some 2 := by kernel_rfl
theorem gType0 : (Tryd.prog.globals[0]?).map (·.type) = some 74 := by kernel_rfl
theorem gType1 : (Tryd.prog.globals[1]?).map (·.type) = some 78 := by kernel_rfl
theorem gType2 : (Tryd.prog.globals[2]?).map (·.type) = some 81 := by kernel_rfl
theorem cells48 : Tryd.prog.cellsOf 48 = 1 := by kernel_rfl
theorem cells16 : Tryd.prog.cellsOf 74 = 16 := by kernel_rfl
theorem cells64 : Tryd.prog.cellsOf 78 = 64 := by kernel_rfl
theorem cells3 : Tryd.prog.cellsOf 3 = 1 := by kernel_rfl
theorem cells4 : Tryd.prog.cellsOf 80 = 4 := by kernel_rfl
theorem cells44 : Tryd.prog.cellsOf 81 = 16 := by kernel_rfl
theorem tab_of {W : World} {name : String} {d : DataW Unit} {k : IntKind} {zs : List Int} {g : Nat} {t e : TypeId} {n : Nat} (h : VarReads Tryd.prog W name d) (hd : d = tabData k zs)
    (hg : Tryd.prog.globalNamed name = some g) (hty : (Tryd.prog.globals[g]?).map (·.type) = some t) (ht : Tryd.prog.underlying t = some (.array n e)) (he : Tryd.prog.underlying e = some (.int k)) (hce : Tryd.prog.cellsOf e = 1) (hct : Tryd.prog.cellsOf t = n) : TabIs Tryd.prog W name k zs := by
  obtain ⟨g', t', cs, fuel, p, hg', ht', hvar, hdd⟩ := h
  obtain rfl := Option.some.inj (hg.symm.trans hg')
  obtain rfl := Option.some.inj (hty.symm.trans ht')
  subst hd
  unfold TabIs
  rw [hvar, ← cells_of_tab ht he hce hct hdd]
def turnRows : List (List Int) := [[7, 12, 17, 22], [5, 9, 14, 20], [4, 11, 16, 23], [6, 10, 15, 21]]
theorem turns_cells {W : World} {fuel : Nat} {cs : List Value} {p : List MemPlace} {sp : Nat → Bool} (h : DataW.trod (fun _ => ()) Tryd.prog W 0 sp false fuel 81 cs = some (.agg (turnRows.map fun r => tabData .i64 r), p)) :
    ∀ j, j < 16 → cs[j]? = some (.int .i64 (trn j : Int)) := by
  cases fuel with
  | zero => simp [DataW.trod] at h
  | succ fuel =>
    simp only [DataW.trod, Tryd.underlying81, cells4, cells44] at h
    split at h
    · obtain ⟨xs, hm, hx⟩ := Option.map_eq_some_iff.1 h
      have hxs : xs.map (·.1) = turnRows.map fun r => (tabData .i64 r : DataW Unit) := by
        have := congrArg Prod.fst hx
        simpa using this
      have row : ∀ i, i < 4 → ∀ r, turnRows[i]? = some r → (cs.drop (i * 4)).take 4 = r.map fun z => Value.int .i64 z := by
        intro i hi r hr
        obtain ⟨b, hb, hf⟩ := mapM_at hm i i (by simp [hi])
        have h2 : (xs.map (·.1))[i]? = some b.1 := by simp [hb]
        rw [hxs, List.getElem?_map, hr] at h2
        have h3 : b.1 = tabData .i64 r := (Option.some.inj h2).symm
        obtain ⟨b1, b2⟩ := b
        subst h3
        exact cells_of_tab Tryd.underlying80 Tryd.underlying3 cells3 cells4 hf
      intro j hj
      have hq := row (j / 4) (by omega)
      have hcell : cs[j]? = ((cs.drop (j / 4 * 4)).take 4)[j % 4]? := by
        rw [List.getElem?_take_of_lt (by omega), List.getElem?_drop]
        congr 1
        omega
      have key : ∃ r, turnRows[j / 4]? = some r ∧ (r.map fun z => Value.int .i64 z)[j % 4]? = some (.int .i64 (trn j : Int)) := by
        clear hq hcell
        rcases (show j = 0 ∨ j = 1 ∨ j = 2 ∨ j = 3 ∨ j = 4 ∨ j = 5 ∨ j = 6 ∨ j = 7 ∨ j = 8 ∨ j = 9 ∨ j = 10 ∨ j = 11 ∨ j = 12 ∨ j = 13 ∨ j = 14 ∨ j = 15 by omega) with rfl | rfl | rfl | rfl | rfl | rfl | rfl | rfl | rfl | rfl | rfl | rfl | rfl | rfl | rfl | rfl <;> exact ⟨_, rfl, rfl⟩
      obtain ⟨r, hr1, hr2⟩ := key
      rw [hcell, hq r hr1]
      exact hr2
    · cases h
theorem tabs_of {W : World} (h : laidMet Tryd.prog Rows.digestKnownRow.laid W) : Tabs W := by
  have h0 : VarReads Tryd.prog W Rows.digestKnownRow.laid[0].1 Rows.digestKnownRow.laid[0].2 := laidMet.reads h (List.getElem_mem _)
  have h1 : VarReads Tryd.prog W Rows.digestKnownRow.laid[1].1 Rows.digestKnownRow.laid[1].2 := laidMet.reads h (List.getElem_mem _)
  have h2 : VarReads Tryd.prog W Rows.digestKnownRow.laid[2].1 Rows.digestKnownRow.laid[2].2 := laidMet.reads h (List.getElem_mem _)
  have t0 := tab_of (zs := T4) h0 rfl gName0 gType0 Tryd.underlying74 Tryd.underlying48 cells48 cells16
  have t1 := tab_of (zs := SN) h1 rfl gName1 gType1 Tryd.underlying78 Tryd.underlying48 cells48 cells64
  have t2 : TabT 2 W := fun j hj => by
    obtain ⟨g', t', cs, fuel, p, hg', ht', hvar, hdd⟩ := h2
    obtain rfl := Option.some.inj (gName2.symm.trans hg')
    obtain rfl := Option.some.inj (gType2.symm.trans ht')
    have := turns_cells hdd j hj
    rw [World.var?_cell gName2 hvar j]
    simpa using this
  refine ⟨fun j hj => ?_, fun j hj => ?_, t2, World.block_lt_of_cell? W _ (t2 0 (by omega))⟩
  · rw [t0.cell gName0 j (by exact hj), t4_int j hj]
  · rw [t1.cell gName1 j (by exact hj)]
    have : ∀ m : Fin 64, SN.getD m.1 0 = (sin m.1 : Int) := by decide +kernel
    rw [this ⟨j, hj⟩]
end Go.Proofs.YtfcghfllhcjmnaaDoor
