import Derived.Test.YtmmcpcgnbffnjaaDoorRows
import Derived.Test.YtmmcpcgnbffnjaaDoorDqLaw
import Derived.Lib.LaidTab
import Derived.Lib.LaidU8
namespace Go.Proofs.YtmmcpcgnbffnjaaDoor
open Go.RowKit Go.Lib
theorem gName0 : Tryd.prog.globalNamed Rows.digestHashersUptoRow.laid[3].1 = some 0 := by kernel_rfl
theorem gName1 : Tryd.prog.globalNamed Rows.digestHashersUptoRow.laid[4].1 = some 1 := by kernel_rfl
theorem gName2 : Tryd.prog.globalNamed Rows.digestHashersUptoRow.laid[5].1 = some 2 := by kernel_rfl
theorem gType0 : (Tryd.prog.globals[0]?).map (·.type) = some 63 := by kernel_rfl
theorem gType1 : (Tryd.prog.globals[1]?).map (·.type) = some 69 := by kernel_rfl
theorem gType2 : (Tryd.prog.globals[2]?).map (·.type) = some 72 := by kernel_rfl
theorem cells48 : Tryd.prog.cellsOf 43 = 1 := by kernel_rfl
theorem cells16 : Tryd.prog.cellsOf 63 = 16 := by kernel_rfl
theorem cells64 : Tryd.prog.cellsOf 69 = 64 := by kernel_rfl
theorem cells3 : Tryd.prog.cellsOf 3 = 1 := by kernel_rfl
theorem cells4 : Tryd.prog.cellsOf 71 = 4 := by kernel_rfl
theorem cells44 : Tryd.prog.cellsOf 72 = 16 := by kernel_rfl
theorem tab_of {W : World} {name : String} {d : DataW Unit} {k : IntKind} {zs : List Int} {g : Nat} {t e : TypeId} {n : Nat} (h : VarReads Tryd.prog W name d) (hd : d = tabData k zs)
    (hg : Tryd.prog.globalNamed name = some g) (hty : (Tryd.prog.globals[g]?).map (·.type) = some t) (ht : Tryd.prog.underlying t = some (.array n e)) (he : Tryd.prog.underlying e = some (.int k)) (hce : Tryd.prog.cellsOf e = 1) (hct : Tryd.prog.cellsOf t = n) : TabIs Tryd.prog W name k zs := by
  obtain ⟨g', t', cs, fuel, p, hg', ht', hvar, hdd⟩ := h
  obtain rfl := Option.some.inj (hg.symm.trans hg')
  obtain rfl := Option.some.inj (hty.symm.trans ht')
  subst hd
  unfold TabIs
  rw [hvar, ← cells_of_tab ht he hce hct hdd]
def turnRows : List (List Int) := [[7, 12, 17, 22], [5, 9, 14, 20], [4, 11, 16, 23], [6, 10, 15, 21]]
theorem turns_cells {W : World} {fuel : Nat} {cs : List Value} {p : List MemPlace} {sp : Nat → Bool} (h : DataW.trod (fun _ => ()) Tryd.prog W 0 sp false fuel 72 cs = some (.agg (turnRows.map fun r => tabData .i64 r), p)) :
    ∀ j, j < 16 → cs[j]? = some (.int .i64 (trn j : Int)) := by
  cases fuel with
  | zero => simp [DataW.trod] at h
  | succ fuel =>
    simp only [DataW.trod, Tryd.underlying72, cells4, cells44] at h
    split at h
    · obtain ⟨xs, hm, hx⟩ := Option.map_eq_some_iff.1 h
      have hxs : xs.map (·.1) = turnRows.map fun r => (tabData .i64 r : DataW Unit) := by
        have := congrArg Prod.fst hx
        simpa using this
      have row : ∀ i, i < 4 → ∀ r, turnRows[i]? = some r → (cs.drop (i * 4)).take 4 = r.map fun z => Value.int .i64 z := by
        intro i hi r hr
        obtain ⟨b, hb, hf⟩ := mapM_at hm i i (by simp [hi])
        have h2 : (xs.map (·.1))[i]? = some b.1 := by simp [hb]
        rw [hxs, List.getElem?_map, hr] at h2
        have h3 : b.1 = tabData .i64 r := (Option.some.inj h2).symm
        obtain ⟨b1, b2⟩ := b
        subst h3
        exact cells_of_tab Tryd.underlying71 Tryd.underlying3 cells3 cells4 hf
      intro j hj
      have hq := row (j / 4) (by omega)
      have hcell : cs[j]? = ((cs.drop (j / 4 * 4)).take 4)[j % 4]? := by
        rw [List.getElem?_take_of_lt (by omega), List.getElem?_drop]
        congr 1
        omega
      have key : ∃ r, turnRows[j / 4]? = some r ∧ (r.map fun z => Value.int .i64 z)[j % 4]? = some (.int .i64 (trn j : Int)) := by
        clear hq hcell
        rcases (show j = 0 ∨ j = 1 ∨ j = 2 ∨ j = 3 ∨ j = 4 ∨ j = 5 ∨ j = 6 ∨ j = 7 ∨ j = 8 ∨ j = 9 ∨ j = 10 ∨ j = 11 ∨ j = 12 ∨ j = 13 ∨ j = 14 ∨ j = 15 by omega) with rfl | rfl | rfl | rfl | rfl | rfl | rfl | rfl | rfl | rfl | rfl | rfl | rfl | rfl | rfl | rfl <;> exact ⟨_, rfl, rfl⟩
      obtain ⟨r, hr1, hr2⟩ := key
      rw [hcell, hq r hr1]
      exact hr2
    · cases h
theorem tabs_of {W : World} (h : laidMet Tryd.prog Rows.digestHashersUptoRow.laid W) : Tabs W := by
  have h0 : VarReads Tryd.prog W Rows.digestHashersUptoRow.laid[3].1 Rows.digestHashersUptoRow.laid[3].2 := laidMet.reads h (List.getElem_mem _)
  have h1 : VarReads Tryd.prog W Rows.digestHashersUptoRow.laid[4].1 Rows.digestHashersUptoRow.laid[4].2 := laidMet.reads h (List.getElem_mem _)
  have h2 : VarReads Tryd.prog W Rows.digestHashersUptoRow.laid[5].1 Rows.digestHashersUptoRow.laid[5].2 := laidMet.reads h (List.getElem_mem _)
  have t0 := tab_of (zs := T4) h0 rfl gName0 gType0 Tryd.underlying63 Tryd.underlying43 cells48 cells16
  have t1 := tab_of (zs := SN) h1 rfl gName1 gType1 Tryd.underlying69 Tryd.underlying43 cells48 cells64
  have t2 : TabT 2 W := fun j hj => by
    obtain ⟨g', t', cs, fuel, p, hg', ht', hvar, hdd⟩ := h2
    obtain rfl := Option.some.inj (gName2.symm.trans hg')
    obtain rfl := Option.some.inj (gType2.symm.trans ht')
    have := turns_cells hdd j hj
    rw [World.var?_cell gName2 hvar j]
    simpa using this
  refine ⟨fun j hj => ?_, fun j hj => ?_, t2, World.block_lt_of_cell? W _ (t2 0 (by omega))⟩
  · rw [t0.cell gName0 j (by exact hj), t4_int j hj]
  · rw [t1.cell gName1 j (by exact hj)]
    have : ∀ m : Fin 64, SN.getD m.1 0 = (sin m.1 : Int) := by decide +kernel
    rw [this ⟨j, hj⟩]
def PW : List Int := [1, 2, 4, 8, 16, 32, 64, 128, 256, 512, 1024, 2048, 4096, 8192, 16384, 32768, 65536, 131072, 262144, 524288, 1048576, 2097152, 4194304, 8388608, 16777216, 33554432, 67108864, 134217728, 268435456, 536870912, 1073741824, 2147483648]
theorem hName0 : Tryd.prog.globalNamed Rows.digestHashersUptoRow.laid[0].1 = some 3 := by kernel_rfl
theorem hName1 : Tryd.prog.globalNamed Rows.digestHashersUptoRow.laid[1].1 = some 4 := by kernel_rfl
theorem hName2 : Tryd.prog.globalNamed Rows.digestHashersUptoRow.laid[2].1 = some 5 := by kernel_rfl
theorem hType0 : (Tryd.prog.globals[3]?).map (·.type) = some 88 := by kernel_rfl
theorem hType1 : (Tryd.prog.globals[4]?).map (·.type) = some 89 := by kernel_rfl
theorem hType2 : (Tryd.prog.globals[5]?).map (·.type) = some 95 := by kernel_rfl
theorem cellsA : Tryd.prog.cellsOf 88 = 64 := by kernel_rfl
theorem cellsB : Tryd.prog.cellsOf 89 = 16 := by kernel_rfl
theorem cellsC : Tryd.prog.cellsOf 95 = 32 := by kernel_rfl
theorem rtabs_of {W : World} (h : laidMet Tryd.prog Rows.digestHashersUptoRow.laid W) : RTabs W := by
  have h0 : VarReads Tryd.prog W Rows.digestHashersUptoRow.laid[0].1 Rows.digestHashersUptoRow.laid[0].2 := laidMet.reads h (List.getElem_mem _)
  have h1 : VarReads Tryd.prog W Rows.digestHashersUptoRow.laid[1].1 Rows.digestHashersUptoRow.laid[1].2 := laidMet.reads h (List.getElem_mem _)
  have h2 : VarReads Tryd.prog W Rows.digestHashersUptoRow.laid[2].1 Rows.digestHashersUptoRow.laid[2].2 := laidMet.reads h (List.getElem_mem _)
  have t0 := tab_of (zs := SN) h0 rfl hName0 hType0 Tryd.underlying88 Tryd.underlying3 cells3 cellsA
  have t1 := tab_of (zs := TN) h1 rfl hName1 hType1 Tryd.underlying89 Tryd.underlying3 cells3 cellsB
  have t2 := tab_of (zs := PW) h2 rfl hName2 hType2 Tryd.underlying95 Tryd.underlying3 cells3 cellsC
  have eS : ∀ m : Fin 64, SN.getD m.1 0 = (sin m.1 : Int) := by decide +kernel
  have eT : ∀ m : Fin 16, TN.getD m.1 0 = (trn m.1 : Int) := by decide +kernel
  have eP : ∀ m : Fin 32, PW.getD m.1 0 = ((2 ^ m.1 : Nat) : Int) := by decide +kernel
  have a0 : TabRS 3 W := fun j hj => by rw [t0.cell hName0 j (by exact hj), eS ⟨j, hj⟩]
  have a1 : TabT 4 W := fun j hj => by rw [t1.cell hName1 j (by exact hj), eT ⟨j, hj⟩]
  have a2 : TabRP 5 W := fun j hj => by rw [t2.cell hName2 j (by exact hj), eP ⟨j, hj⟩]
  exact ⟨a0, a1, a2, World.block_lt_of_cell? W _ (a0 0 (by omega)), World.block_lt_of_cell? W _ (a1 0 (by omega)), World.block_lt_of_cell? W _ (a2 0 (by omega))⟩
end Go.Proofs.YtmmcpcgnbffnjaaDoor
