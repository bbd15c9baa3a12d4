import Derived.Test.YtioiphonajinmaaDoorCards
import Derived.Test.YtioiphonajinmaaDoorTie
import Derived.Lib.LaidTab
import Derived.Lib.LaidU8
import Derived.Test.YtioiphonajinmaaDoorGGcLaw
import Derived.Test.YtioiphonajinmaaDoorGGrDoc
import Derived.Deep.DeepWitnessRowRef
namespace Go.Proofs.YtioiphonajinmaaDoor
open Go.ChangeShapes Go.WideShapes Go.ChangeAt Go.RowKit
open Go.Lib
theorem ownK : ownKnob Tryd.prog.godebug = none := by kernel_rfl
theorem gName0 : Tryd.prog.globalNamed Rows.ringPrintsRow.laid[4].1 = some 3 := by kernel_rfl
theorem gType0 : (Tryd.prog.globals[3]?).map (·.type) = some 69 := by kernel_rfl
theorem cellsV21 : Tryd.prog.cellsOf 69 = 21 := by kernel_rfl
def TG : List Int := [16, 16, 16, 8, 4096, 65536, 1024, 65536, 64, 1024, 1024, 1073741824, 1073741824, 1073741824, 1024, 64, 65536, 1024, 64, 1024, 7]
theorem tab_of {W : World} {name : String} {d : DataW Unit} {k : IntKind} {zs : List Int} {g : Nat} {t e : TypeId} {n : Nat} (h : VarReads Tryd.prog W name d) (hd : d = tabData k zs)
    (hg : Tryd.prog.globalNamed name = some g) (hty : (Tryd.prog.globals[g]?).map (·.type) = some t) (ht : Tryd.prog.underlying t = some (.array n e)) (he : Tryd.prog.underlying e = some (.int k)) (hce : Tryd.prog.cellsOf e = 1) (hct : Tryd.prog.cellsOf t = n) : TabIs Tryd.prog W name k zs := by
  obtain ⟨g', t', cs, fuel, p, hg', ht', hvar, hdd⟩ := h
  obtain rfl := Option.some.inj (hg.symm.trans hg')
  obtain rfl := Option.some.inj (hty.symm.trans ht')
  subst hd
  unfold TabIs
  rw [hvar, ← cells_of_tab ht he hce hct hdd]
theorem hiS_at (j : Nat) : TG.getD j 0 = hiS j := rfl
theorem tabs_of {W : World} (h : laidMet Tryd.prog Rows.ringPrintsRow.laid W) : TabG W := by
  have h0 : VarReads Tryd.prog W Rows.ringPrintsRow.laid[4].1 Rows.ringPrintsRow.laid[4].2 := laidMet.reads h (List.getElem_mem _)
  have t0 := tab_of (zs := TG) h0 rfl gName0 gType0 Tryd.underlying69 Tryd.underlying3 cellsI cellsV21
  intro j hj
  rw [t0.cell gName0 j (by exact hj)]
  exact congrArg (fun z => some (Value.int .i64 z)) (hiS_at j)
def D32 : List Int := [0, 1, 28, 2, 29, 14, 24, 3, 30, 22, 20, 15, 25, 17, 4, 8, 31, 27, 13, 23, 21, 19, 16, 7, 26, 12, 18, 6, 11, 5, 10, 9]
def D64 : List Int := [0, 1, 56, 2, 57, 49, 28, 3, 61, 58, 42, 50, 38, 29, 17, 4, 62, 47, 59, 36, 45, 43, 51, 22, 53, 39, 33, 30, 24, 18, 12, 5, 63, 55, 48, 27, 60, 41, 37, 16, 46, 35, 44, 21, 52, 32, 23, 11, 54, 26, 40, 15, 34, 20, 31, 10, 25, 14, 19, 9, 13, 8, 7, 6]
theorem arr_at {t e : TypeId} {n s : Nat} {W : World} {sp : Nat → Bool} {fuel : Nat} {cs : List Value} {ds : List (DataW Unit)} {p : List MemPlace} (ht : Tryd.prog.underlying t = some (.array n e)) (ce : Tryd.prog.cellsOf e = s) (ct : Tryd.prog.cellsOf t = n * s) (h : DataW.trod (fun _ => ()) Tryd.prog W 0 sp false fuel t cs = some (.agg ds, p)) : ∃ f2, ∀ i, i < n → ∃ d q, ds[i]? = some d ∧ DataW.trod (fun _ => ()) Tryd.prog W 0 sp false f2 e ((cs.drop (i * s)).take s) = some (d, q) := by
  cases fuel with
  | zero => simp [DataW.trod] at h
  | succ fuel =>
    simp only [DataW.trod, ht, ce, ct] at h
    split at h
    · obtain ⟨xs, hm, hx⟩ := Option.map_eq_some_iff.1 h
      have hxs : xs.map (·.1) = ds := by
        have := congrArg Prod.fst hx
        simpa using this
      refine ⟨fuel, fun i hi => ?_⟩
      obtain ⟨b, hb, hf⟩ := mapM_at hm i i (by simp [hi])
      exact ⟨b.1, b.2, by rw [← hxs]; simp [hb], hf⟩
    · cases h
theorem one_cell {cs : List Value} {j : Nat} {v : Value} (h : (cs.drop (j * 1)).take 1 = [v]) : cs[j]? = some v := by
  have h2 : ((cs.drop (j * 1)).take 1)[0]? = some v := by rw [h]; rfl
  rw [List.getElem?_take_of_lt (by omega), List.getElem?_drop] at h2
  simpa using h2
theorem lit_str {H : Type} {a b : List UInt8} (h : (DataW.lit (.string a) : DataW H) = .lit (.string b)) : a = b := by injection h with h; injection h
theorem gName2 : Tryd.prog.globalNamed Rows.ringPrintsRow.laid[2].1 = some 7 := by kernel_rfl
theorem gType2 : (Tryd.prog.globals[7]?).map (·.type) = some 189 := by kernel_rfl
theorem cellsU : Tryd.prog.cellsOf 129 = 1 := by kernel_rfl
theorem cells20 : Tryd.prog.cellsOf 189 = 20 := by kernel_rfl
theorem pow_of {W : World} (h : laidMet Tryd.prog Rows.ringPrintsRow.laid W) : PowR W :=
  tab_of (zs := Lib.pow10Tab) (laidMet.reads h (List.getElem_mem (show 2 < Rows.ringPrintsRow.laid.length by decide))) rfl gName2 gType2 Tryd.underlying189 Tryd.underlying129 cellsU cells20
theorem gName3 : Tryd.prog.globalNamed Rows.ringPrintsRow.laid[3].1 = some 0 := by kernel_rfl
theorem gType3 : (Tryd.prog.globals[0]?).map (·.type) = some 102 := by kernel_rfl
theorem cells9 : Tryd.prog.cellsOf 9 = 1 := by kernel_rfl
theorem cells219 : Tryd.prog.cellsOf 102 = 21 * 1 := by kernel_rfl
def wordsD : List (DataW Unit) := (List.range 21).map fun k => .lit (.string (swd k))
theorem words_of {W : World} (h : laidMet Tryd.prog Rows.ringPrintsRow.laid W) : TabW W := by
  have h3 : VarReads Tryd.prog W Rows.ringPrintsRow.laid[3].1 (.agg wordsD) := laidMet.reads h (List.getElem_mem (show 3 < Rows.ringPrintsRow.laid.length by decide))
  obtain ⟨g', t', cs, fuel, p, hg', ht', hvar, hdd⟩ := h3
  obtain rfl := Option.some.inj (gName3.symm.trans hg')
  obtain rfl := Option.some.inj (gType3.symm.trans ht')
  obtain ⟨f2, ha⟩ := arr_at Tryd.underlying102 cells9 cells219 hdd
  intro k hk
  obtain ⟨d, q, hd, ht⟩ := ha k (by omega)
  have e : wordsD[k]? = some (.lit (.string (swd k))) := by unfold wordsD; rw [List.getElem?_map, List.getElem?_range (by omega)]; rfl
  rw [e] at hd
  obtain rfl := Option.some.inj hd
  obtain ⟨s, e0, e1, _⟩ := DataW.trod_string Tryd.underlying9 ht
  have c := one_cell e0
  rw [World.var?_cell gName3 hvar k, ← Array.getElem?_toList, c]
  simp only [Prod.mk.injEq] at e1
  have := lit_str e1.1
  rw [this, strOf_toList]
noncomputable def hold (os : Os) : World := World.holding Tryd.prog os ⟨#[], #[], []⟩
/-- the table as its initialiser lays it -/
noncomputable def laidHeap (h : Array Obj) : Array Obj :=
  ((((h.modify 3 fun
      | .cells _ t frozen => .cells (TG.map fun n : Int => Value.int .i64 n).toArray t frozen
      | o => o).modify 0 fun
      | .cells _ t frozen => .cells (swA.map fun l : List UInt8 => Value.string (strOf l)).toArray t frozen
      | o => o).modify 7 fun
      | .cells _ t frozen => .cells (Lib.pow10Tab.map fun n : Int => Value.int .u64 n).toArray t frozen
      | o => o).modify 9 fun
      | .cells _ t frozen => .cells (D32.map fun n : Int => Value.int .u8 n).toArray t frozen
      | o => o).modify 10 fun
      | .cells _ t frozen => .cells (D64.map fun n : Int => Value.int .u8 n).toArray t frozen
      | o => o
theorem laid_met (os : Os) : laidMet Tryd.prog Rows.ringPrintsRow.laid (({ hold os with heap := laidHeap (hold os).heap } : World).forCall (fun _ _ => 0) ⟨#[], #[.agg #[.string .empty, .int .i64 0, .int .i64 0, .int .i64 0, .int .i64 0, .int .i64 0, .int .i64 0, .int .i64 0, .int .i64 0, .int .i64 0, .int .i64 0, .int .i64 0, .int .i64 0, .int .i64 0, .int .i64 0, .int .i64 0, .int .i64 0, .int .i64 0, .int .i64 0, .int .i64 0, .int .i64 0, .int .i64 0, .slice none 0 0]], []⟩).memory :=
  laidMet_of_run' 8 (by kernel_rfl) (by kernel_rfl)
theorem reads (os : Os) {H : Type} (enc : TypeId × Value → H) : ∃ places, DataW.whole enc Tryd.prog (({ hold os with heap := laidHeap (hold os).heap } : World).forCall (fun _ _ => 0) ⟨#[], #[.agg #[.string .empty, .int .i64 0, .int .i64 0, .int .i64 0, .int .i64 0, .int .i64 0, .int .i64 0, .int .i64 0, .int .i64 0, .int .i64 0, .int .i64 0, .int .i64 0, .int .i64 0, .int .i64 0, .int .i64 0, .int .i64 0, .int .i64 0, .int .i64 0, .int .i64 0, .int .i64 0, .int .i64 0, .int .i64 0, .slice none 0 0]], []⟩).memory Tryd.f4.params.toList Rows.ringPrintsSpec.vars false (#[.agg #[.string .empty, .int .i64 0, .int .i64 0, .int .i64 0, .int .i64 0, .int .i64 0, .int .i64 0, .int .i64 0, .int .i64 0, .int .i64 0, .int .i64 0, .int .i64 0, .int .i64 0, .int .i64 0, .int .i64 0, .int .i64 0, .int .i64 0, .int .i64 0, .int .i64 0, .int .i64 0, .int .i64 0, .int .i64 0, .slice none 0 0]] : Array Value).toList 8 = some ([.agg [.lit (.string []), .lit (.int .i64 0), .lit (.int .i64 0), .lit (.int .i64 0), .lit (.int .i64 0), .lit (.int .i64 0), .lit (.int .i64 0), .lit (.int .i64 0), .lit (.int .i64 0), .lit (.int .i64 0), .lit (.int .i64 0), .lit (.int .i64 0), .lit (.int .i64 0), .lit (.int .i64 0), .lit (.int .i64 0), .lit (.int .i64 0), .lit (.int .i64 0), .lit (.int .i64 0), .lit (.int .i64 0), .lit (.int .i64 0), .lit (.int .i64 0), .lit (.int .i64 0), .nil]], [], places) :=
  ⟨[], by kernel_rfl⟩
set_option maxRecDepth 100000 in
theorem contract (H : Type) (enc : TypeId × Value → H) (W : World) (base : Nat) (args : Array Value) (ds gs : List (DataW H)) (before : List MemPlace)
    (hval : ∀ (j : Nat) t v, Tryd.f4.params[j]? = some t → args[j]? = some v → Value.okWide Tryd.prog W .any base t v)
    (hW : DataW.Whole enc Tryd.prog Tryd.f4.params.toList Rows.ringPrintsSpec.vars false W args.toList ds gs before) (hsz : (DataW.weightsEach Tryd.prog (Tryd.f4.params.toList ++ (OpenSpec.ofChange Rows.ringPrintsSpec).bare.plain.varTypes Tryd.prog) (ds ++ gs)).all (· ≤ reachBytes) = true) (hL : laidMetH Tryd.prog Rows.ringPrintsRow.laid W) :
    Calls Tryd.prog 4 args W fun e W' => ∃ v, e = .returned v ∧ Rows.ringPrintsSpec.post enc Tryd.prog Tryd.f4 false true false false W args v W' := by
  have hW' := hW
  obtain ⟨p, q, hA0, hV, rfl, hfz, hnd⟩ := hW
  have hA : DataW.TrodAll enc Tryd.prog W 0 (fun _ => true) true Tryd.f4.params.toList args.toList ds p := hA0
  rw [Tryd.params4] at hA hval hsz
  obtain ⟨v0, vs0, d0, ds0, p0, q0, hargs0, rfl, rfl, h0, r0⟩ := trodAll_cons hA
  obtain ⟨rfl, rfl, rfl⟩ := trodAll_nil r0
  obtain rfl : args = #[v0] := by cases args; simp_all
  obtain ⟨rfl, rfl⟩ := trodVars_none hV
  have h0k := h0
  clear hA0
  simp only [List.append_nil] at hW'
  have hlt0 : ∀ x ∈ p0, x.block < W.heap.size := fun x hx => hW'.lt x (by simp [hx])
  obtain ⟨st, x, ns, ao, b, o, cap, pv, rfl, hN, hs⟩ := open_cl (hval 0 27 v0 rfl rfl) h0 fun n hn => of_decide_eq_true (List.all_eq_true.1 hsz _ (DataW.weights_mem_each (j := 0) rfl rfl n hn))
  refine (prints_any W.heap.size W st x ao b o cap pv ns hN (Nat.le_refl _) hs (pow_of hL) (tabs_of hL) (words_of hL)).mono fun e W' ⟨he, hnx⟩ => ?_
  subst he
  refine ⟨_, rfl, _, _, _, [], p0, [], hW', trodAll_cons_mk (shut_bool Tryd.underlying4 _) trodAll_mk0, ?_, rfl, hnx.frame _, fun h => by cases h⟩
  have k := trodAll_cons_mk (Below.trod laidOutP (by kernel_rfl) (of_decide_eq_true (by kernel_rfl)) h0k hnx hlt0) trodAll_mk0
  simp only [List.append_nil] at k
  exact k
set_option maxRecDepth 100000 in
theorem lifted (os : Os) (started : os.Started) (H : Type) (enc : TypeId × Value → H) (F : Stop.Interp) :
    ReturnsInHanded {} Tryd.checked os 4 .any ((OpenSpec.ofChange Rows.ringPrintsSpec).preRow enc Tryd.prog Tryd.f4 Rows.ringPrintsRow.domain false Rows.ringPrintsRow.laid) (((OpenSpec.ofChange Rows.ringPrintsSpec).at F).post enc Tryd.prog Tryd.f4 false true false false) := by
  obtain ⟨places, hx⟩ := reads os enc
  refine returnsInHanded_of_row (C := Tryd.checked) (s := OpenSpec.ofChange Rows.ringPrintsSpec) ownK started (by kernel_rfl) Tryd.func4
    (witness_row_atRef (enc := enc) (C := Tryd.checked) false { hold os with heap := laidHeap (hold os).heap } #[.agg #[.string .empty, .int .i64 0, .int .i64 0, .int .i64 0, .int .i64 0, .int .i64 0, .int .i64 0, .int .i64 0, .int .i64 0, .int .i64 0, .int .i64 0, .int .i64 0, .int .i64 0, .int .i64 0, .int .i64 0, .int .i64 0, .int .i64 0, .int .i64 0, .int .i64 0, .int .i64 0, .int .i64 0, .int .i64 0, .slice none 0 0]] rfl (by kernel_rfl) (by kernel_rfl) (by kernel_rfl)
      (OpenSpec.preRow_of_cond 8 hx (by kernel_rfl) (fun k hk => by cases hk) (by kernel_rfl) (laid_met os))) ?_
  intro W base args ds gs before hval hW _ _ hsz hL _ _
  exact contract H enc W base args ds gs before hval hW hsz hL
theorem said : Rows.RingPrintsSaid :=
  OpenClaim.holds_of_cond 4 Tryd.f4 rfl rfl rfl rfl rfl rfl rfl ⟨rfl, rfl, rfl, rfl, rfl⟩ rfl rfl rfl rfl rfl (by kernel_rfl) Tryd.func4 (by kernel_rfl)
    (of_decide_eq_true (by kernel_rfl)) (by unfold Func.isWrapper; first | (rw [if_pos (by decide +kernel)]; kernel_rfl) | (rw [if_neg (by decide +kernel)]; exact ⟨rfl, rfl⟩))
    (fun os started H enc _ F => by rw [OpenClaim.pre_eq_preRow]; exact lifted os started H enc F)
theorem plain (f : FuncId) (fn : Func) (hf : Tryd.pinned.checked.prog.funcNamed Rows.ringPrintsRow.func = some f) (hfn : Tryd.pinned.checked.prog.funcs[f]? = some fn) :
    false = Tryd.pinned.checked.prog.looks [] ∧ ∀ (j : Nat) t, fn.params[j]? = some t → Tryd.pinned.checked.prog.wantsStandIn t = false := by
  obtain rfl : f = 4 := Option.some.inj ((show Tryd.prog.funcNamed Rows.ringPrintsRow.func = some 4 by kernel_rfl).symm.trans hf) |>.symm
  obtain rfl : fn = Tryd.f4 := (Option.some.inj (Tryd.func4.symm.trans hfn)).symm
  refine ⟨by kernel_rfl, fun j t ht => ?_⟩
  rw [Tryd.params4] at ht
  have hm := Array.mem_of_getElem? ht
  simp at hm
  rcases hm with rfl
  · exact (show Tryd.prog.wantsStandIn 27 = false by kernel_rfl)
theorem card : Rows.RingPrintsCardSaid :=
  Claim7.holds_tied_plain_at .later [] _ _ _ _ said (fun _ h => by cases h) (by kernel_rfl) (fun _ h => by cases h) ringPrints_row_tie rfl ⟨rfl, rfl⟩ (by kernel_rfl) rfl plain (by kernel_rfl)
end Go.Proofs.YtioiphonajinmaaDoor
