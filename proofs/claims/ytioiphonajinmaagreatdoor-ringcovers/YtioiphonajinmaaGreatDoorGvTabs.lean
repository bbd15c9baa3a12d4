import Derived.Test.YtioiphonajinmaaGreatDoorRows
import Derived.Test.YtioiphonajinmaaGreatDoorGvLaw
import Derived.Test.YtioiphonajinmaaGreatDoorGvKept
import Derived.Lib.LaidTab
import Derived.Lib.LaidU8
import Derived.Stop.LaidErr
namespace Go.Proofs.YtioiphonajinmaaGreatDoor
open Go.RowKit Go.Lib
theorem v_gName1 : Tryz.prog.globalNamed Rows.ringCoversRow.laid[5].1 = some 3 := by kernel_rfl
theorem v_gName2 : Tryz.prog.globalNamed Rows.ringCoversRow.laid[6].1 = some 4 := by kernel_rfl
theorem v_gType1 : (Tryz.prog.globals[3]?).map (·.type) = some 165 := by kernel_rfl
theorem v_gType2 : (Tryz.prog.globals[4]?).map (·.type) = some 168 := by kernel_rfl
theorem v_cells48 : Tryz.prog.cellsOf 114 = 1 := by kernel_rfl
theorem v_cells64 : Tryz.prog.cellsOf 165 = 64 := by kernel_rfl
theorem v_cells3 : Tryz.prog.cellsOf 3 = 1 := by kernel_rfl
theorem v_cells4 : Tryz.prog.cellsOf 167 = 4 := by kernel_rfl
theorem v_cells44 : Tryz.prog.cellsOf 168 = 16 := by kernel_rfl
theorem v_tab_of {W : World} {name : String} {d : DataW Unit} {k : IntKind} {zs : List Int} {g : Nat} {t e : TypeId} {n : Nat} (h : VarReads Tryz.prog W name d) (hd : d = tabData k zs)
    (hg : Tryz.prog.globalNamed name = some g) (hty : (Tryz.prog.globals[g]?).map (·.type) = some t) (ht : Tryz.prog.underlying t = some (.array n e)) (he : Tryz.prog.underlying e = some (.int k)) (hce : Tryz.prog.cellsOf e = 1) (hct : Tryz.prog.cellsOf t = n) : TabIs Tryz.prog W name k zs := by
  obtain ⟨g', t', cs, fuel, p, hg', ht', hvar, hdd⟩ := h
  obtain rfl := Option.some.inj (hg.symm.trans hg')
  obtain rfl := Option.some.inj (hty.symm.trans ht')
  subst hd
  unfold TabIs
  rw [hvar, ← cells_of_tab ht he hce hct hdd]
def v_turnRows : List (List Int) := [[7, 12, 17, 22], [5, 9, 14, 20], [4, 11, 16, 23], [6, 10, 15, 21]]
theorem v_turns_cells {W : World} {fuel : Nat} {cs : List Value} {p : List MemPlace} {sp : Nat → Bool} (h : DataW.trod (fun _ => ()) Tryz.prog W 0 sp false fuel 168 cs = some (.agg (v_turnRows.map fun r => tabData .i64 r), p)) :
    ∀ j, j < 16 → cs[j]? = some (.int .i64 (trn j : Int)) := by
  cases fuel with
  | zero => simp [DataW.trod] at h
  | succ fuel =>
    simp only [DataW.trod, Tryz.underlying168, v_cells4, v_cells44] at h
    split at h
    · obtain ⟨xs, hm, hx⟩ := Option.map_eq_some_iff.1 h
      have hxs : xs.map (·.1) = v_turnRows.map fun r => (tabData .i64 r : DataW Unit) := by
        have := congrArg Prod.fst hx
        simpa using this
      have row : ∀ i, i < 4 → ∀ r, v_turnRows[i]? = some r → (cs.drop (i * 4)).take 4 = r.map fun z => Value.int .i64 z := by
        intro i hi r hr
        obtain ⟨b, hb, hf⟩ := mapM_at hm i i (by simp [hi])
        have h2 : (xs.map (·.1))[i]? = some b.1 := by simp [hb]
        rw [hxs, List.getElem?_map, hr] at h2
        have h3 : b.1 = tabData .i64 r := (Option.some.inj h2).symm
        obtain ⟨b1, b2⟩ := b
        subst h3
        exact cells_of_tab Tryz.underlying167 Tryz.underlying3 v_cells3 v_cells4 hf
      intro j hj
      have hq := row (j / 4) (by omega)
      have hcell : cs[j]? = ((cs.drop (j / 4 * 4)).take 4)[j % 4]? := by
        rw [List.getElem?_take_of_lt (by omega), List.getElem?_drop]
        congr 1
        omega
      have key : ∃ r, v_turnRows[j / 4]? = some r ∧ (r.map fun z => Value.int .i64 z)[j % 4]? = some (.int .i64 (trn j : Int)) := by
        clear hq hcell
        rcases (show j = 0 ∨ j = 1 ∨ j = 2 ∨ j = 3 ∨ j = 4 ∨ j = 5 ∨ j = 6 ∨ j = 7 ∨ j = 8 ∨ j = 9 ∨ j = 10 ∨ j = 11 ∨ j = 12 ∨ j = 13 ∨ j = 14 ∨ j = 15 by omega) with rfl | rfl | rfl | rfl | rfl | rfl | rfl | rfl | rfl | rfl | rfl | rfl | rfl | rfl | rfl | rfl <;> exact ⟨_, rfl, rfl⟩
      obtain ⟨r, hr1, hr2⟩ := key
      rw [hcell, hq r hr1]
      exact hr2
    · cases h
theorem v_tabd_of {W : World} (h : laidMet Tryz.prog Rows.ringCoversRow.laid W) : 5 ≤ W.heap.size ∧ TabS 3 W ∧ TabT 4 W := by
  have h1 : VarReads Tryz.prog W Rows.ringCoversRow.laid[5].1 Rows.ringCoversRow.laid[5].2 := laidMet.reads h (List.getElem_mem _)
  have h2 : VarReads Tryz.prog W Rows.ringCoversRow.laid[6].1 Rows.ringCoversRow.laid[6].2 := laidMet.reads h (List.getElem_mem _)
  have t1 := v_tab_of (zs := SN) h1 rfl v_gName1 v_gType1 Tryz.underlying165 Tryz.underlying114 v_cells48 v_cells64
  have t2 : TabT 4 W := fun j hj => by
    obtain ⟨g', t', cs, fuel, p, hg', ht', hvar, hdd⟩ := h2
    obtain rfl := Option.some.inj (v_gName2.symm.trans hg')
    obtain rfl := Option.some.inj (v_gType2.symm.trans ht')
    have := v_turns_cells hdd j hj
    rw [World.var?_cell v_gName2 hvar j]
    simpa using this
  refine ⟨World.block_lt_of_cell? W _ (t2 0 (by omega)), fun j hj => ?_, t2⟩
  · rw [t1.cell v_gName1 j (by exact hj)]
    have : ∀ m : Fin 64, SN.getD m.1 0 = (sin m.1 : Int) := by decide +kernel
    rw [this ⟨j, hj⟩]
theorem gNameR : Tryz.prog.globalNamed Rows.ringCoversRow.laid[3].1 = some 2 := by kernel_rfl
theorem gTypeR : (Tryz.prog.globals[2]?).map (·.type) = some 92 := by kernel_rfl
theorem gNameS : Tryz.prog.globalNamed Rows.ringCoversRow.laid[4].1 = some 1 := by kernel_rfl
theorem gTypeS : (Tryz.prog.globals[1]?).map (·.type) = some 92 := by kernel_rfl
theorem cellsES : Tryz.prog.cellsOf 183 = 1 := by kernel_rfl
theorem cells9E : Tryz.prog.cellsOf 9 = 1 := by kernel_rfl
theorem env_of {W : World} (h : laidMet Tryz.prog Rows.ringCoversRow.laid W) (hsh : W.ShapedOpen Tryz.prog) : NEnv W := by
  have h3 := laidMet.tail (laidMet.tail (laidMet.tail h))
  have h4 := laidMet.tail h3
  obtain ⟨a3, s3, v3, _⟩ := laid_sentinel h3 gNameR gTypeR Tryz.underlying92 (fun u hu => typeName_ptr_named (P := Tryz.prog) (nm := "errors.errorString") (tp := 181) (by kernel_rfl) (by kernel_rfl) (by decide) u (hu.trans (congrArg some (by decide)))) Tryz.underlying181 Tryz.underlying183 rfl rfl Tryz.underlying9 cellsES cells9E
  obtain ⟨a4, s4, v4, _⟩ := laid_sentinel h4 gNameS gTypeS Tryz.underlying92 (fun u hu => typeName_ptr_named (P := Tryz.prog) (nm := "errors.errorString") (tp := 181) (by kernel_rfl) (by kernel_rfl) (by decide) u (hu.trans (congrArg some (by decide)))) Tryz.underlying181 Tryz.underlying183 rfl rfl Tryz.underlying9 cellsES cells9E
  have c3 := World.var?_cell gNameR v3 0
  have c4 := World.var?_cell gNameS v4 0
  exact ⟨Go.Proofs.cell_of_shapedOpen_int (zero := #[.int .i64 0]) (t := 3) hsh (of_decide_eq_true (by kernel_rfl)) (by kernel_rfl) rfl (by kernel_rfl) (by kernel_rfl) Tryz.underlying3, ⟨_, _, by simpa using c4⟩, ⟨_, _, by simpa using c3⟩⟩
/-- the law: it says yes -/
theorem covers_all (N : Nat) (w : World) (a b c d : Int) (H Z M : List Int) (aH : Option Addr) (bH oH cH : Nat) (aZ : Option Addr) (bZ oZ cZ : Nat) (aM : Option Addr) (bM oM cM : Nat) (aK : Option Addr) (bK oK cK : Nat) (KY : List ByteArray) (hH : PsAt N w aH bH oH H) (hZ : PsAt N w aZ bZ oZ Z) (hM : PsAt N w aM bM oM M) (hN : N ≤ w.heap.size) (hK : KsAt N w aK bK oK KY) (hE : NEnv w) (hD : 5 ≤ w.heap.size ∧ TabS 3 w ∧ TabT 4 w) :
    Calls Tryz.prog 3 #[.agg #[.int .i64 a, .int .i64 b, .int .i64 c, .int .i64 d, .slice aH H.length cH, .slice aZ Z.length cZ, .slice aM M.length cM], .slice aK KY.length cK] w fun e w' => e = .returned (.bool true) ∧ Below w.heap.size w w' := by
  have hT : TabD w := ⟨hD.1, hD.2.1, hD.2.2⟩
  refine covers_any N w a b c d H Z M aH bH oH cH aZ bZ oZ cZ aM bM oM cM aK bK oK cK KY hH hZ hM hN hK hE fun st x ns W hb he hs => ?_
  intro Y ao b cap pv N6 key hY h1 h2 h3
  exact kept_any N6 Y st x ao b cap pv ns _ _ _ key h1 h2 (vd_of he hs) h3 (hT.below (hb.trans (hY.mono hb.size)))
end Go.Proofs.YtioiphonajinmaaGreatDoor
