import Derived.Test.YtgdjfocnaapooaaDoorCards
import Derived.Test.YtgdjfocnaapooaaDoorTie
import Derived.Lib.LaidTab
import Derived.Lib.LaidU8
import Derived.Lib.SmallJoins
import Derived.ProofKit
import Derived.OpenShut
import Derived.SizedLaws
import Derived.Deep.DeepHandedRow
import Derived.Test.YtgdjfocnaapooaaDoorGFoOpen
import Derived.Test.YtgdjfocnaapooaaDoorFvLaw
import Derived.Test.YtgdjfocnaapooaaDoorFvOpen
import Derived.Deep.DeepWitnessRowRef
import Derived.JoinedOf
namespace Go.Proofs.YtgdjfocnaapooaaDoor
open Go.ChangeShapes Go.WideShapes Go.ChangeAt Go.RowKit
open Go.ChangeMaps (open_string shut_string)
open Go.Joins (open_agg4 shut_agg4)
theorem ownK : ownKnob Tryd.prog.godebug = none := by kernel_rfl
theorem laidOutP : laidOutB Tryd.prog = true := by kernel_rfl
open Go.Lib
theorem gName0 : Tryd.prog.globalNamed Rows.frameStreamUptoRow.laid[0].1 = some 5 := by kernel_rfl
theorem gType0 : (Tryd.prog.globals[5]?).map (·.type) = some 135 := by kernel_rfl
theorem gName1 : Tryd.prog.globalNamed Rows.frameStreamUptoRow.laid[1].1 = some 2 := by kernel_rfl
theorem gType1 : (Tryd.prog.globals[2]?).map (·.type) = some 104 := by kernel_rfl
theorem gName2 : Tryd.prog.globalNamed Rows.frameStreamUptoRow.laid[2].1 = some 1 := by kernel_rfl
theorem gType2 : (Tryd.prog.globals[1]?).map (·.type) = some 101 := by kernel_rfl
theorem gName3 : Tryd.prog.globalNamed Rows.frameStreamUptoRow.laid[3].1 = some 3 := by kernel_rfl
theorem gType3 : (Tryd.prog.globals[3]?).map (·.type) = some 106 := by kernel_rfl
theorem gName4 : Tryd.prog.globalNamed Rows.frameStreamUptoRow.laid[4].1 = some 0 := by kernel_rfl
theorem gType4 : (Tryd.prog.globals[0]?).map (·.type) = some 87 := by kernel_rfl
theorem cellsU32 : Tryd.prog.cellsOf 124 = 1 := by kernel_rfl
theorem cellsA32 : Tryd.prog.cellsOf 135 = 16 := by kernel_rfl
theorem tab_of {W : World} {name : String} {d : DataW Unit} {k : IntKind} {zs : List Int} {g : Nat} {t e : TypeId} {n : Nat} (h : VarReads Tryd.prog W name d) (hd : d = tabData k zs)
    (hg : Tryd.prog.globalNamed name = some g) (hty : (Tryd.prog.globals[g]?).map (·.type) = some t) (ht : Tryd.prog.underlying t = some (.array n e)) (he : Tryd.prog.underlying e = some (.int k)) (hce : Tryd.prog.cellsOf e = 1) (hct : Tryd.prog.cellsOf t = n) : TabIs Tryd.prog W name k zs := by
  obtain ⟨g', t', cs, fuel, p, hg', ht', hvar, hdd⟩ := h
  obtain rfl := Option.some.inj (hg.symm.trans hg')
  obtain rfl := Option.some.inj (hty.symm.trans ht')
  subst hd
  unfold TabIs
  rw [hvar, ← cells_of_tab ht he hce hct hdd]
theorem tabs_of {W : World} (h : laidMet Tryd.prog Rows.frameStreamUptoRow.laid W) : Tab4 5 W := by
  have h0 : VarReads Tryd.prog W Rows.frameStreamUptoRow.laid[0].1 Rows.frameStreamUptoRow.laid[0].2 := laidMet.reads h (List.getElem_mem _)
  have t0 := tab_of (zs := T4) h0 rfl gName0 gType0 Tryd.underlying135 Tryd.underlying124 cellsU32 cellsA32
  intro j hj
  rw [t0.cell gName0 j (by exact hj), t4_int j hj]
theorem tabF_of {W : World} (h : laidMet Tryd.prog Rows.frameStreamUptoRow.laid W) : TabF W := by
  have e2 : Rows.frameStreamUptoRow.laid[1].2 = .agg shapesD := by rfl
  have h2 : VarReads Tryd.prog W Rows.frameStreamUptoRow.laid[1].1 Rows.frameStreamUptoRow.laid[1].2 := laidMet.reads h (List.getElem_mem _)
  rw [e2] at h2
  have h3 : VarReads Tryd.prog W Rows.frameStreamUptoRow.laid[2].1 Rows.frameStreamUptoRow.laid[2].2 := laidMet.reads h (List.getElem_mem _)
  have e4 : Rows.frameStreamUptoRow.laid[3].2 = .agg bodiesD := by rfl
  have h4 : VarReads Tryd.prog W Rows.frameStreamUptoRow.laid[3].1 Rows.frameStreamUptoRow.laid[3].2 := laidMet.reads h (List.getElem_mem _)
  rw [e4] at h4
  have t3 := tab_of (zs := [0, 1, 2]) h3 rfl gName2 gType2 Tryd.underlying101 Tryd.underlying100 cellsFld cellsHds
  have s := shapes_of h2 gName1 gType1
  refine ⟨fun j hj => ?_, fun i hi => (s i hi).1, fun i hi => (s i hi).2.1, fun i hi => (s i hi).2.2, bodies_of h4 gName3 gType3⟩
  rw [t3.cell gName2 j (by exact hj)]
  have : j = 0 ∨ j = 1 ∨ j = 2 := by omega
  rcases this with rfl | rfl | rfl <;> rfl
theorem tabK_of {W : World} (h : laidMet Tryd.prog Rows.frameStreamUptoRow.laid W) : TabK W := by
  have e0 : Rows.frameStreamUptoRow.laid[4].2 = .agg fieldsD := by rfl
  have h0 : VarReads Tryd.prog W Rows.frameStreamUptoRow.laid[4].1 Rows.frameStreamUptoRow.laid[4].2 := laidMet.reads h (List.getElem_mem _)
  rw [e0] at h0
  exact kinds_of h0 gName4 gType4
theorem six_of {W : World} (h : laidMet Tryd.prog Rows.frameStreamUptoRow.laid W) : 6 ≤ W.heap.size := by
  have := World.block_lt_of_cell? W _ (tabs_of h 0 (by omega))
  exact Nat.lt_of_lt_of_le (by decide) this
noncomputable def low : Nat := (World.holding Tryd.prog default ⟨#[], #[], []⟩).heap.size
noncomputable def hold (os : Os) : World := World.holding Tryd.prog os ⟨#[.cells #[.int .i64 0] 100, .cells #[.int .i64 0] 100, .cells #[.int .i64 3, .int .i64 5] 100, .cells #[.int .i64 3, .int .i64 5, .int .i64 7] 100, .cells #[.int .i64 3, .int .i64 4, .int .i64 5] 100, .cells #[.int .i64 3, .int .i64 4, .int .i64 5, .int .i64 6, .int .i64 7] 100, .cells #[.int .i64 3, .int .i64 4] 100, .cells #[.int .i64 3, .int .i64 4, .int .i64 5, .int .i64 6, .int .i64 7] 100, .cells #[.int .i64 0] 100, .cells #[.int .i64 3, .int .i64 4, .int .i64 5, .int .i64 6, .int .i64 7] 100, .cells #[.int .i64 8] 100, .cells #[.int .i64 5, .int .i64 7, .int .i64 8, .int .i64 9] 100, .cells #[.int .i64 4, .int .i64 5] 100, .cells #[.int .i64 4, .int .i64 5, .int .i64 6, .int .i64 7, .int .i64 9] 100, .cells #[.int .i64 4, .int .i64 5, .int .i64 6] 100, .cells #[.int .i64 4, .int .i64 5, .int .i64 6, .int .i64 7, .int .i64 8, .int .i64 9] 100], #[], []⟩
/-- the tables as their initialisers lay them -/
noncomputable def laidHeap (h : Array Obj) : Array Obj :=
  (((((h.modify 5 fun
      | .cells _ t frozen => .cells (T4.map fun n : Int => Value.int .u32 n).toArray t frozen
      | o => o).modify 0 fun
      | .cells _ t frozen => .cells ((List.range 17).map fun k => Value.string (strOf (letL k))).toArray t frozen
      | o => o).modify 2 fun
      | .cells _ t frozen => .cells ((List.range 10).flatMap fun i => [Value.int .i64 (widF i : Int), Value.int .i64 (mostF i : Int), Value.bool (isTx i)]).toArray t frozen
      | o => o).modify 1 fun
      | .cells _ t frozen => .cells #[.int .i64 0, .int .i64 1, .int .i64 2] t frozen
      | o => o).modify 3 fun
      | .cells _ t frozen => .cells #[.slice none 0 0, .slice (some ⟨low + 0, 0, none⟩) 0 0, .slice (some ⟨low + 1, 0, none⟩) 0 0, .slice (some ⟨low + 2, 0, none⟩) 2 2, .slice (some ⟨low + 3, 0, none⟩) 3 3, .slice (some ⟨low + 4, 0, none⟩) 3 3, .slice (some ⟨low + 5, 0, none⟩) 5 5, .slice (some ⟨low + 6, 0, none⟩) 2 2, .slice (some ⟨low + 7, 0, none⟩) 5 5, .slice (some ⟨low + 8, 0, none⟩) 0 0, .slice (some ⟨low + 9, 0, none⟩) 5 5, .slice (some ⟨low + 10, 0, none⟩) 1 1, .slice (some ⟨low + 11, 0, none⟩) 4 4, .slice (some ⟨low + 12, 0, none⟩) 2 2, .slice (some ⟨low + 13, 0, none⟩) 5 5, .slice (some ⟨low + 14, 0, none⟩) 3 3, .slice (some ⟨low + 15, 0, none⟩) 6 6] t frozen
      | o => o)
theorem laid_met (os : Os) : laidMet Tryd.prog Rows.frameStreamUptoRow.laid (({ hold os with heap := laidHeap (hold os).heap } : World).forCall (fun _ _ => 0) ⟨#[], #[.slice none 0 0, .string .empty, .slice none 0 0], []⟩).memory :=
  laidMet_of_run' 8 (by kernel_rfl) (by kernel_rfl)
theorem reads (os : Os) {H : Type} (enc : TypeId × Value → H) : ∃ places, DataW.whole enc Tryd.prog (({ hold os with heap := laidHeap (hold os).heap } : World).forCall (fun _ _ => 0) ⟨#[], #[.slice none 0 0, .string .empty, .slice none 0 0], []⟩).memory Tryd.f5.params.toList Rows.frameStreamSpec.vars false (#[.slice none 0 0, .string .empty, .slice none 0 0] : Array Value).toList 8 = some ([.nil, .lit (.string []), .nil], [], places) :=
  ⟨[], by kernel_rfl⟩
set_option maxRecDepth 100000 in
theorem contract (H : Type) (enc : TypeId × Value → H) (W : World) (base : Nat) (args : Array Value) (ds gs : List (DataW H)) (before : List MemPlace)
    (hval : ∀ (j : Nat) t v, Tryd.f5.params[j]? = some t → args[j]? = some v → Value.okWide Tryd.prog W .any base t v)
    (hW : DataW.Whole enc Tryd.prog Tryd.f5.params.toList Rows.frameStreamSpec.vars false W args.toList ds gs before) (hk : Rows.uptoSmall H (ds ++ gs) = true) (hL : laidMetH Tryd.prog Rows.frameStreamUptoRow.laid W) :
    Calls Tryd.prog 5 args W fun e W' => ∃ v, e = .returned v ∧ Rows.frameStreamSpec.post enc Tryd.prog Tryd.f5 false true false false W args v W' := by
  have hW' := hW
  obtain ⟨p, q, hA0, hV, rfl, hfz, hnd⟩ := hW
  have hA : DataW.TrodAll enc Tryd.prog W 0 (fun _ => true) true Tryd.f5.params.toList args.toList ds p := hA0
  rw [Tryd.params5] at hA hval
  obtain ⟨v0, vs0, d0, ds0, p0, q0, hargs0, rfl, rfl, h0, r0⟩ := trodAll_cons hA
  obtain ⟨v1, vs1, d1, ds1, p1, q1, hargs1, rfl, rfl, h1, r1⟩ := trodAll_cons r0
  subst hargs1
  obtain ⟨v2, vs2, d2, ds2, p2, q2, hargs2, rfl, rfl, h2, r2⟩ := trodAll_cons r1
  subst hargs2
  obtain ⟨rfl, rfl, rfl⟩ := trodAll_nil r2
  obtain rfl : args = #[v0, v1, v2] := by cases args; simp_all
  obtain ⟨rfl, rfl⟩ := trodVars_none hV
  obtain ⟨a0, len0, cap0, rfl⟩ := okWide_slice Tryd.underlying46 (hval 0 46 v0 rfl rfl)
  obtain ⟨s1, rfl, rfl, rfl, hmax1⟩ := open_string Tryd.underlying9 (hval 1 9 v1 rfl rfl) h1
  obtain ⟨a2, len2, cap2, rfl⟩ := okWide_slice Tryd.underlying47 (hval 2 47 v2 rfl rfl)
  have h0k := h0
  have h2k := h2
  obtain ⟨fuel0, hf0⟩ := h0
  obtain ⟨fuel2, hf2⟩ := h2
  clear hA0
  simp only [List.append_nil, List.nil_append] at hW' hk
  have hkd := of_decide_eq_true hk
  simp only [Rows.uptoBulkAll, Rows.uptoBulk] at hkd
  have hz1 := size_data s1
  have h6 : 6 ≤ W.heap.size := six_of hL
  have hlt0 : ∀ x ∈ p0, x.block < W.heap.size := fun x hx => hW'.lt x (by simp [hx])
  have hlt2 : ∀ x ∈ p2, x.block < W.heap.size := fun x hx => hW'.lt x (by simp [hx])
  obtain ⟨ys, ao, ad0, cap, hv0, hao, hao2, hy, hyl, hys⟩ := open_strewn (v := .slice a0 len0 cap0) hf0
  obtain ⟨cs, ao2, b2, o2, cap', hv2, hco, hcb, hc, hcl⟩ := open_cuts (v := .slice a2 len2 cap2) hf2 hlt2
  simp only at hyl hys hcl
  rw [hv0] at h0k hW' ⊢
  rw [hv2] at h2k hW' ⊢
  refine (frameStream_any ao ad0 cap ys s1 ao2 b2 o2 cap' cs W hao hao2 hy (by omega) (by omega) (by omega) hco (by omega) hcb hc (tabF_of hL) (tabK_of hL) h6 (tabs_of hL)).mono fun e W' ⟨he, hnx⟩ => ?_
  subst he
  refine ⟨_, rfl, _, _, _, [], p0 ++ p2, [], hW', trodAll_cons_mk (shut_bool Tryd.underlying4 _) trodAll_mk0, ?_, rfl, hnx.frame _, fun h => by cases h⟩
  have k0 := Below.trod laidOutP (by kernel_rfl) (of_decide_eq_true (by kernel_rfl)) h0k hnx hlt0
  have k2 := Below.trod laidOutP (by kernel_rfl) (of_decide_eq_true (by kernel_rfl)) h2k hnx hlt2
  have k := trodAll_cons_mk k0 (trodAll_cons_mk (shut_string Tryd.underlying9 hmax1) (trodAll_cons_mk k2 trodAll_mk0))
  simp only [List.append_nil, List.nil_append] at k
  exact k
set_option maxRecDepth 100000 in
theorem lifted (os : Os) (started : os.Started) (H : Type) (enc : TypeId × Value → H) (F : Stop.Interp) :
    ReturnsInHanded {} Tryd.checked os 5 .any ((Rows.OpenSpec.upto Rows.frameStreamSpec).preRow enc Tryd.prog Tryd.f5 Rows.frameStreamUptoRow.domain false Rows.frameStreamUptoRow.laid) (((Rows.OpenSpec.upto Rows.frameStreamSpec).at F).post enc Tryd.prog Tryd.f5 false true false false) := by
  obtain ⟨places, hx⟩ := reads os enc
  refine returnsInHanded_of_row (C := Tryd.checked) (s := Rows.OpenSpec.upto Rows.frameStreamSpec) ownK started (by kernel_rfl) Tryd.func5
    (witness_row_atRef (enc := enc) (C := Tryd.checked) false { hold os with heap := laidHeap (hold os).heap } #[.slice none 0 0, .string .empty, .slice none 0 0] rfl (by kernel_rfl) (by kernel_rfl) (by kernel_rfl)
      (OpenSpec.preRow_of_cond 8 hx (by kernel_rfl) (fun k hk => by cases hk; kernel_rfl) (by kernel_rfl) (laid_met os))) ?_
  intro W base args ds gs before hval hW _ hcond _ hL _ _
  exact contract H enc W base args ds gs before hval hW (hcond _ rfl) hL
theorem said : Rows.FrameStreamUptoSaid :=
  OpenClaim.holds_of_cond 5 Tryd.f5 rfl rfl rfl rfl rfl rfl rfl ⟨rfl, rfl, rfl, rfl, rfl⟩ rfl rfl rfl rfl rfl (by kernel_rfl) Tryd.func5 (by kernel_rfl)
    (of_decide_eq_true (by kernel_rfl)) (by unfold Func.isWrapper; first | (rw [if_pos (by decide +kernel)]; kernel_rfl) | (rw [if_neg (by decide +kernel)]; exact ⟨rfl, rfl⟩))
    (fun os started H enc _ F => by rw [OpenClaim.pre_eq_preRow]; exact lifted os started H enc F)
theorem plain (f : FuncId) (fn : Func) (hf : Tryd.pinned.checked.prog.funcNamed Rows.frameStreamUptoRow.func = some f) (hfn : Tryd.pinned.checked.prog.funcs[f]? = some fn) :
    false = Tryd.pinned.checked.prog.looks [] ∧ ∀ (j : Nat) t, fn.params[j]? = some t → Tryd.pinned.checked.prog.wantsStandIn t = false := by
  obtain rfl : f = 5 := Option.some.inj ((show Tryd.prog.funcNamed Rows.frameStreamUptoRow.func = some 5 by kernel_rfl).symm.trans hf) |>.symm
  obtain rfl : fn = Tryd.f5 := (Option.some.inj (Tryd.func5.symm.trans hfn)).symm
  refine ⟨by kernel_rfl, fun j t ht => ?_⟩
  rw [Tryd.params5] at ht
  have hm := Array.mem_of_getElem? ht
  simp at hm
  rcases hm with rfl | rfl | rfl
  · exact (show Tryd.prog.wantsStandIn 46 = false by kernel_rfl)
  · exact (show Tryd.prog.wantsStandIn 9 = false by kernel_rfl)
  · exact (show Tryd.prog.wantsStandIn 47 = false by kernel_rfl)
theorem card : Rows.FrameStreamUptoCardSaid :=
  Claim7.holds_tied_plain_at .later [] _ _ _ _ said (fun _ h => by cases h) (by kernel_rfl) (fun _ h => by cases h) frameStreamUpto_row_tie rfl ⟨rfl, rfl⟩ (by kernel_rfl) rfl plain (by kernel_rfl)
end Go.Proofs.YtgdjfocnaapooaaDoor
