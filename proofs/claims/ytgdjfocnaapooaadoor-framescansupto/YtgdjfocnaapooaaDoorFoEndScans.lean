import Derived.Test.YtgdjfocnaapooaaDoorCards
import Derived.Test.YtgdjfocnaapooaaDoorTie
import Derived.Lib.LaidTab
import Derived.Lib.LaidU8
import Derived.Lib.SmallJoins
import Derived.ProofKit
import Derived.OpenShut
import Derived.SizedLaws
import Derived.Deep.DeepHandedRow
import Derived.Test.YtgdjfocnaapooaaDoorGFoOpen
import Derived.Test.YtgdjfocnaapooaaDoorFxScan
import Derived.Deep.DeepWitnessRowRef
import Derived.JoinedOf
namespace Go.Proofs.YtgdjfocnaapooaaDoor
open Go.ChangeShapes Go.WideShapes Go.ChangeAt Go.RowKit
open Go.ChangeMaps (open_string shut_string)
open Go.Joins (open_agg4 shut_agg4)
theorem ownK : ownKnob Tryd.prog.godebug = none := by kernel_rfl
theorem laidOutP : laidOutB Tryd.prog = true := by kernel_rfl
open Go.Lib
theorem gName0 : Tryd.prog.globalNamed Rows.frameScansUptoRow.laid[0].1 = some 4 := by kernel_rfl
theorem gType0 : (Tryd.prog.globals[4]?).map (·.type) = some 87 := by kernel_rfl
theorem gName1 : Tryd.prog.globalNamed Rows.frameScansUptoRow.laid[1].1 = some 5 := by kernel_rfl
theorem gType1 : (Tryd.prog.globals[5]?).map (·.type) = some 135 := by kernel_rfl
theorem gName2 : Tryd.prog.globalNamed Rows.frameScansUptoRow.laid[2].1 = some 2 := by kernel_rfl
theorem gType2 : (Tryd.prog.globals[2]?).map (·.type) = some 104 := by kernel_rfl
theorem gName3 : Tryd.prog.globalNamed Rows.frameScansUptoRow.laid[3].1 = some 1 := by kernel_rfl
theorem gType3 : (Tryd.prog.globals[1]?).map (·.type) = some 101 := by kernel_rfl
theorem gName4 : Tryd.prog.globalNamed Rows.frameScansUptoRow.laid[4].1 = some 3 := by kernel_rfl
theorem gType4 : (Tryd.prog.globals[3]?).map (·.type) = some 106 := by kernel_rfl
theorem cellsU32 : Tryd.prog.cellsOf 124 = 1 := by kernel_rfl
theorem cellsA32 : Tryd.prog.cellsOf 135 = 16 := by kernel_rfl
theorem tab_of {W : World} {name : String} {d : DataW Unit} {k : IntKind} {zs : List Int} {g : Nat} {t e : TypeId} {n : Nat} (h : VarReads Tryd.prog W name d) (hd : d = tabData k zs)
    (hg : Tryd.prog.globalNamed name = some g) (hty : (Tryd.prog.globals[g]?).map (·.type) = some t) (ht : Tryd.prog.underlying t = some (.array n e)) (he : Tryd.prog.underlying e = some (.int k)) (hce : Tryd.prog.cellsOf e = 1) (hct : Tryd.prog.cellsOf t = n) : TabIs Tryd.prog W name k zs := by
  obtain ⟨g', t', cs, fuel, p, hg', ht', hvar, hdd⟩ := h
  obtain rfl := Option.some.inj (hg.symm.trans hg')
  obtain rfl := Option.some.inj (hty.symm.trans ht')
  subst hd
  unfold TabIs
  rw [hvar, ← cells_of_tab ht he hce hct hdd]
theorem tabs_of {W : World} (h : laidMet Tryd.prog Rows.frameScansUptoRow.laid W) : Tab4 5 W := by
  have h0 : VarReads Tryd.prog W Rows.frameScansUptoRow.laid[1].1 Rows.frameScansUptoRow.laid[1].2 := laidMet.reads h (List.getElem_mem _)
  have t0 := tab_of (zs := T4) h0 rfl gName1 gType1 Tryd.underlying135 Tryd.underlying124 cellsU32 cellsA32
  intro j hj
  rw [t0.cell gName1 j (by exact hj), t4_int j hj]
theorem tabF_of {W : World} (h : laidMet Tryd.prog Rows.frameScansUptoRow.laid W) : TabF W := by
  have e2 : Rows.frameScansUptoRow.laid[2].2 = .agg shapesD := by rfl
  have h2 : VarReads Tryd.prog W Rows.frameScansUptoRow.laid[2].1 Rows.frameScansUptoRow.laid[2].2 := laidMet.reads h (List.getElem_mem _)
  rw [e2] at h2
  have h3 : VarReads Tryd.prog W Rows.frameScansUptoRow.laid[3].1 Rows.frameScansUptoRow.laid[3].2 := laidMet.reads h (List.getElem_mem _)
  have e4 : Rows.frameScansUptoRow.laid[4].2 = .agg bodiesD := by rfl
  have h4 : VarReads Tryd.prog W Rows.frameScansUptoRow.laid[4].1 Rows.frameScansUptoRow.laid[4].2 := laidMet.reads h (List.getElem_mem _)
  rw [e4] at h4
  have t3 := tab_of (zs := [0, 1, 2]) h3 rfl gName3 gType3 Tryd.underlying101 Tryd.underlying100 cellsFld cellsHds
  have s := shapes_of h2 gName2 gType2
  refine ⟨fun j hj => ?_, fun i hi => (s i hi).1, fun i hi => (s i hi).2.1, fun i hi => (s i hi).2.2, bodies_of h4 gName4 gType4⟩
  rw [t3.cell gName3 j (by exact hj)]
  have : j = 0 ∨ j = 1 ∨ j = 2 := by omega
  rcases this with rfl | rfl | rfl <;> rfl
theorem tabR_of {W : World} (h : laidMet Tryd.prog Rows.frameScansUptoRow.laid W) : TabR W := by
  have e0 : Rows.frameScansUptoRow.laid[0].2 = .agg fieldsD := by rfl
  have h0 : VarReads Tryd.prog W Rows.frameScansUptoRow.laid[0].1 Rows.frameScansUptoRow.laid[0].2 := laidMet.reads h (List.getElem_mem _)
  rw [e0] at h0
  exact fields_of h0 gName0 gType0
theorem six_of {W : World} (h : laidMet Tryd.prog Rows.frameScansUptoRow.laid W) : 6 ≤ W.heap.size := by
  have := World.block_lt_of_cell? W _ (tabs_of h 0 (by omega))
  exact Nat.lt_of_lt_of_le (by decide) this
noncomputable def low : Nat := (World.holding Tryd.prog default ⟨#[], #[], []⟩).heap.size
noncomputable def hold (os : Os) : World := World.holding Tryd.prog os ⟨#[.cells #[.int .i64 0] 100, .cells #[.int .i64 0] 100, .cells #[.int .i64 3, .int .i64 5] 100, .cells #[.int .i64 3, .int .i64 5, .int .i64 7] 100, .cells #[.int .i64 3, .int .i64 4, .int .i64 5] 100, .cells #[.int .i64 3, .int .i64 4, .int .i64 5, .int .i64 6, .int .i64 7] 100, .cells #[.int .i64 3, .int .i64 4] 100, .cells #[.int .i64 3, .int .i64 4, .int .i64 5, .int .i64 6, .int .i64 7] 100, .cells #[.int .i64 0] 100, .cells #[.int .i64 3, .int .i64 4, .int .i64 5, .int .i64 6, .int .i64 7] 100, .cells #[.int .i64 8] 100, .cells #[.int .i64 5, .int .i64 7, .int .i64 8, .int .i64 9] 100, .cells #[.int .i64 4, .int .i64 5] 100, .cells #[.int .i64 4, .int .i64 5, .int .i64 6, .int .i64 7, .int .i64 9] 100, .cells #[.int .i64 4, .int .i64 5, .int .i64 6] 100, .cells #[.int .i64 4, .int .i64 5, .int .i64 6, .int .i64 7, .int .i64 8, .int .i64 9] 100], #[], []⟩
/-- the tables as their initialisers lay them -/
noncomputable def laidHeap (h : Array Obj) : Array Obj :=
  (((((h.modify 5 fun
      | .cells _ t frozen => .cells (T4.map fun n : Int => Value.int .u32 n).toArray t frozen
      | o => o).modify 4 fun
      | .cells _ t frozen => .cells ((List.range 17).map fun k => Value.string (strOf (letL k))).toArray t frozen
      | o => o).modify 2 fun
      | .cells _ t frozen => .cells ((List.range 10).flatMap fun i => [Value.int .i64 (widF i : Int), Value.int .i64 (mostF i : Int), Value.bool (isTx i)]).toArray t frozen
      | o => o).modify 1 fun
      | .cells _ t frozen => .cells #[.int .i64 0, .int .i64 1, .int .i64 2] t frozen
      | o => o).modify 3 fun
      | .cells _ t frozen => .cells #[.slice none 0 0, .slice (some ⟨low + 0, 0, none⟩) 0 0, .slice (some ⟨low + 1, 0, none⟩) 0 0, .slice (some ⟨low + 2, 0, none⟩) 2 2, .slice (some ⟨low + 3, 0, none⟩) 3 3, .slice (some ⟨low + 4, 0, none⟩) 3 3, .slice (some ⟨low + 5, 0, none⟩) 5 5, .slice (some ⟨low + 6, 0, none⟩) 2 2, .slice (some ⟨low + 7, 0, none⟩) 5 5, .slice (some ⟨low + 8, 0, none⟩) 0 0, .slice (some ⟨low + 9, 0, none⟩) 5 5, .slice (some ⟨low + 10, 0, none⟩) 1 1, .slice (some ⟨low + 11, 0, none⟩) 4 4, .slice (some ⟨low + 12, 0, none⟩) 2 2, .slice (some ⟨low + 13, 0, none⟩) 5 5, .slice (some ⟨low + 14, 0, none⟩) 3 3, .slice (some ⟨low + 15, 0, none⟩) 6 6] t frozen
      | o => o)
theorem laid_met (os : Os) : laidMet Tryd.prog Rows.frameScansUptoRow.laid (({ hold os with heap := laidHeap (hold os).heap } : World).forCall (fun _ _ => 0) ⟨#[], #[.string .empty, .int .i64 0], []⟩).memory :=
  laidMet_of_run' 8 (by kernel_rfl) (by kernel_rfl)
theorem reads (os : Os) {H : Type} (enc : TypeId × Value → H) : ∃ places, DataW.whole enc Tryd.prog (({ hold os with heap := laidHeap (hold os).heap } : World).forCall (fun _ _ => 0) ⟨#[], #[.string .empty, .int .i64 0], []⟩).memory Tryd.f4.params.toList Rows.frameScansSpec.vars false (#[.string .empty, .int .i64 0] : Array Value).toList 8 = some ([.lit (.string []), .lit (.int .i64 0)], [], places) :=
  ⟨[], by kernel_rfl⟩
set_option maxRecDepth 100000 in
theorem contract (H : Type) (enc : TypeId × Value → H) (W : World) (base : Nat) (args : Array Value) (ds gs : List (DataW H)) (before : List MemPlace)
    (hval : ∀ (j : Nat) t v, Tryd.f4.params[j]? = some t → args[j]? = some v → Value.okWide Tryd.prog W .any base t v)
    (hW : DataW.Whole enc Tryd.prog Tryd.f4.params.toList Rows.frameScansSpec.vars false W args.toList ds gs before) (hk : Rows.uptoSmall H (ds ++ gs) = true) (hL : laidMetH Tryd.prog Rows.frameScansUptoRow.laid W) :
    Calls Tryd.prog 4 args W fun e W' => ∃ v, e = .returned v ∧ Rows.frameScansSpec.post enc Tryd.prog Tryd.f4 false true false false W args v W' := by
  have hW' := hW
  obtain ⟨p, q, hA0, hV, rfl, hfz, hnd⟩ := hW
  have hA : DataW.TrodAll enc Tryd.prog W 0 (fun _ => true) true Tryd.f4.params.toList args.toList ds p := hA0
  rw [Tryd.params4] at hA hval
  obtain ⟨v0, vs0, d0, ds0, p0, q0, hargs0, rfl, rfl, h0, r0⟩ := trodAll_cons hA
  obtain ⟨v1, vs1, d1, ds1, p1, q1, hargs1, rfl, rfl, h1, r1⟩ := trodAll_cons r0
  subst hargs1
  obtain ⟨rfl, rfl, rfl⟩ := trodAll_nil r1
  obtain rfl : args = #[v0, v1] := by cases args; simp_all
  obtain ⟨rfl, rfl⟩ := trodVars_none hV
  obtain ⟨s0, rfl, rfl, rfl, hmax0⟩ := open_string Tryd.underlying9 (hval 0 9 v0 rfl rfl) h0
  obtain ⟨s1, rfl, rfl, rfl, hmax1⟩ := open_int Tryd.underlying3 (hval 1 3 v1 rfl rfl) h1
  clear hA0
  simp only [List.append_nil] at hW' hk
  have hkd := of_decide_eq_true hk
  simp only [Rows.uptoBulkAll, Rows.uptoBulk] at hkd
  have hz0 := size_data s0
  have h6 : 6 ≤ W.heap.size := six_of hL
  refine (frameScans_any s0 s1 (by omega) W (tabF_of hL) (tabR_of hL) h6 (tabs_of hL)).mono fun e W' ⟨he, hnx⟩ => ?_
  subst he
  refine ⟨_, rfl, _, _, _, [], [], [], hW', trodAll_cons_mk (shut_bool Tryd.underlying4 _) trodAll_mk0, ?_, rfl, hnx.frame _, fun h => by cases h⟩
  exact trodAll_cons_mk (shut_string Tryd.underlying9 hmax0) (trodAll_cons_mk (shut_int Tryd.underlying3 hmax1) trodAll_mk0)
set_option maxRecDepth 100000 in
theorem lifted (os : Os) (started : os.Started) (H : Type) (enc : TypeId × Value → H) (F : Stop.Interp) :
    ReturnsInHanded {} Tryd.checked os 4 .any ((Rows.OpenSpec.upto Rows.frameScansSpec).preRow enc Tryd.prog Tryd.f4 Rows.frameScansUptoRow.domain false Rows.frameScansUptoRow.laid) (((Rows.OpenSpec.upto Rows.frameScansSpec).at F).post enc Tryd.prog Tryd.f4 false true false false) := by
  obtain ⟨places, hx⟩ := reads os enc
  refine returnsInHanded_of_row (C := Tryd.checked) (s := Rows.OpenSpec.upto Rows.frameScansSpec) ownK started (by kernel_rfl) Tryd.func4
    (witness_row_atRef (enc := enc) (C := Tryd.checked) false { hold os with heap := laidHeap (hold os).heap } #[.string .empty, .int .i64 0] rfl (by kernel_rfl) (by kernel_rfl) (by kernel_rfl)
      (OpenSpec.preRow_of_cond 8 hx (by kernel_rfl) (fun k hk => by cases hk; kernel_rfl) (by kernel_rfl) (laid_met os))) ?_
  intro W base args ds gs before hval hW _ hcond _ hL _ _
  exact contract H enc W base args ds gs before hval hW (hcond _ rfl) hL
theorem said : Rows.FrameScansUptoSaid :=
  OpenClaim.holds_of_cond 4 Tryd.f4 rfl rfl rfl rfl rfl rfl rfl ⟨rfl, rfl, rfl, rfl, rfl⟩ rfl rfl rfl rfl rfl (by kernel_rfl) Tryd.func4 (by kernel_rfl)
    (of_decide_eq_true (by kernel_rfl)) (by unfold Func.isWrapper; first | (rw [if_pos (by decide +kernel)]; kernel_rfl) | (rw [if_neg (by decide +kernel)]; exact ⟨rfl, rfl⟩))
    (fun os started H enc _ F => by rw [OpenClaim.pre_eq_preRow]; exact lifted os started H enc F)
theorem plain (f : FuncId) (fn : Func) (hf : Tryd.pinned.checked.prog.funcNamed Rows.frameScansUptoRow.func = some f) (hfn : Tryd.pinned.checked.prog.funcs[f]? = some fn) :
    false = Tryd.pinned.checked.prog.looks [] ∧ ∀ (j : Nat) t, fn.params[j]? = some t → Tryd.pinned.checked.prog.wantsStandIn t = false := by
  obtain rfl : f = 4 := Option.some.inj ((show Tryd.prog.funcNamed Rows.frameScansUptoRow.func = some 4 by kernel_rfl).symm.trans hf) |>.symm
  obtain rfl : fn = Tryd.f4 := (Option.some.inj (Tryd.func4.symm.trans hfn)).symm
  refine ⟨by kernel_rfl, fun j t ht => ?_⟩
  rw [Tryd.params4] at ht
  have hm := Array.mem_of_getElem? ht
  simp at hm
  rcases hm with rfl | rfl
  · exact (show Tryd.prog.wantsStandIn 9 = false by kernel_rfl)
  · exact (show Tryd.prog.wantsStandIn 3 = false by kernel_rfl)
theorem card : Rows.FrameScansUptoCardSaid :=
  Claim7.holds_tied_plain_at .later [] _ _ _ _ said (fun _ h => by cases h) (by kernel_rfl) (fun _ h => by cases h) frameScansUpto_row_tie rfl ⟨rfl, rfl⟩ (by kernel_rfl) rfl plain (by kernel_rfl)
end Go.Proofs.YtgdjfocnaapooaaDoor
