import Derived.Test.YtanlnelfbfjelaaDoorCards
import Derived.Test.YtanlnelfbfjelaaDoorTie
import Derived.Lib.LaidTab
import Derived.Lib.LaidU8
import Derived.Test.YtanlnelfbfjelaaDoorGGtDocP
import Derived.JoinedOf
import Derived.ProofKit
import Derived.OpenShut
import Derived.SizedLaws
import Derived.Deep.DeepHandedRow
import Derived.Deep.DeepWitnessRowRef
namespace Go.Proofs.YtanlnelfbfjelaaDoor
open Go.ChangeShapes Go.WideShapes Go.ChangeAt Go.RowKit
open Go.ChangeMaps (open_string shut_string)
open Go.Lib
theorem ownK : ownKnob Tryd.prog.godebug = none := by kernel_rfl
theorem gName0 : Tryd.prog.globalNamed Rows.ringParsesRow.laid[2].1 = some 0 := by kernel_rfl
theorem gType0 : (Tryd.prog.globals[0]?).map (·.type) = some 52 := by kernel_rfl
theorem cellsIP : Tryd.prog.cellsOf 3 = 1 := by kernel_rfl
theorem cellsV21 : Tryd.prog.cellsOf 52 = 21 := by kernel_rfl
def TG : List Int := [16, 16, 16, 8, 4096, 65536, 1024, 65536, 64, 1024, 1024, 1073741824, 1073741824, 1073741824, 1024, 64, 65536, 1024, 64, 1024, 7]
theorem tab_of {W : World} {name : String} {d : DataW Unit} {k : IntKind} {zs : List Int} {g : Nat} {t e : TypeId} {n : Nat} (h : VarReads Tryd.prog W name d) (hd : d = tabData k zs)
    (hg : Tryd.prog.globalNamed name = some g) (hty : (Tryd.prog.globals[g]?).map (·.type) = some t) (ht : Tryd.prog.underlying t = some (.array n e)) (he : Tryd.prog.underlying e = some (.int k)) (hce : Tryd.prog.cellsOf e = 1) (hct : Tryd.prog.cellsOf t = n) : TabIs Tryd.prog W name k zs := by
  obtain ⟨g', t', cs, fuel, p, hg', ht', hvar, hdd⟩ := h
  obtain rfl := Option.some.inj (hg.symm.trans hg')
  obtain rfl := Option.some.inj (hty.symm.trans ht')
  subst hd
  unfold TabIs
  rw [hvar, ← cells_of_tab ht he hce hct hdd]
theorem hiS_at (j : Nat) : TG.getD j 0 = hiS j := rfl
theorem tabs_of {W : World} (h : laidMet Tryd.prog Rows.ringParsesRow.laid W) : TabG W := by
  have h0 : VarReads Tryd.prog W Rows.ringParsesRow.laid[2].1 Rows.ringParsesRow.laid[2].2 := laidMet.reads h (List.getElem_mem _)
  have t0 := tab_of (zs := TG) h0 rfl gName0 gType0 Tryd.underlying52 Tryd.underlying3 cellsIP cellsV21
  intro j hj
  rw [t0.cell gName0 j (by exact hj)]
  exact congrArg (fun z => some (Value.int .i64 z)) (hiS_at j)
theorem arr_at {t e : TypeId} {n s : Nat} {W : World} {sp : Nat → Bool} {fuel : Nat} {cs : List Value} {ds : List (DataW Unit)} {p : List MemPlace} (ht : Tryd.prog.underlying t = some (.array n e)) (ce : Tryd.prog.cellsOf e = s) (ct : Tryd.prog.cellsOf t = n * s) (h : DataW.trod (fun _ => ()) Tryd.prog W 0 sp false fuel t cs = some (.agg ds, p)) : ∃ f2, ∀ i, i < n → ∃ d q, ds[i]? = some d ∧ DataW.trod (fun _ => ()) Tryd.prog W 0 sp false f2 e ((cs.drop (i * s)).take s) = some (d, q) := by
  cases fuel with
  | zero => simp [DataW.trod] at h
  | succ fuel =>
    simp only [DataW.trod, ht, ce, ct] at h
    split at h
    · obtain ⟨xs, hm, hx⟩ := Option.map_eq_some_iff.1 h
      have hxs : xs.map (·.1) = ds := by
        have := congrArg Prod.fst hx
        simpa using this
      refine ⟨fuel, fun i hi => ?_⟩
      obtain ⟨b, hb, hf⟩ := mapM_at hm i i (by simp [hi])
      exact ⟨b.1, b.2, by rw [← hxs]; simp [hb], hf⟩
    · cases h
theorem one_cell {cs : List Value} {j : Nat} {v : Value} (h : (cs.drop (j * 1)).take 1 = [v]) : cs[j]? = some v := by
  have h2 : ((cs.drop (j * 1)).take 1)[0]? = some v := by rw [h]; rfl
  rw [List.getElem?_take_of_lt (by omega), List.getElem?_drop] at h2
  simpa using h2
theorem lit_str {H : Type} {a b : List UInt8} (h : (DataW.lit (.string a) : DataW H) = .lit (.string b)) : a = b := by injection h with h; injection h
theorem gName3 : Tryd.prog.globalNamed Rows.ringParsesRow.laid[1].1 = some 1 := by kernel_rfl
theorem gType3 : (Tryd.prog.globals[1]?).map (·.type) = some 112 := by kernel_rfl
theorem cells9 : Tryd.prog.cellsOf 9 = 1 := by kernel_rfl
theorem cells219 : Tryd.prog.cellsOf 112 = 21 * 1 := by kernel_rfl
def wordsD : List (DataW Unit) := (List.range 21).map fun k => .lit (.string (swd k))
theorem words_of {W : World} (h : laidMet Tryd.prog Rows.ringParsesRow.laid W) : TabW W := by
  have h3 : VarReads Tryd.prog W Rows.ringParsesRow.laid[1].1 (.agg wordsD) := laidMet.reads h (List.getElem_mem (show 1 < Rows.ringParsesRow.laid.length by decide))
  obtain ⟨g', t', cs, fuel, p, hg', ht', hvar, hdd⟩ := h3
  obtain rfl := Option.some.inj (gName3.symm.trans hg')
  obtain rfl := Option.some.inj (gType3.symm.trans ht')
  obtain ⟨f2, ha⟩ := arr_at Tryd.underlying112 cells9 cells219 hdd
  intro k hk
  obtain ⟨d, q, hd, ht⟩ := ha k (by omega)
  have e : wordsD[k]? = some (.lit (.string (swd k))) := by unfold wordsD; rw [List.getElem?_map, List.getElem?_range (by omega)]; rfl
  rw [e] at hd
  obtain rfl := Option.some.inj hd
  obtain ⟨s, e0, e1, _⟩ := DataW.trod_string Tryd.underlying9 ht
  have c := one_cell e0
  rw [World.var?_cell gName3 hvar k, ← Array.getElem?_toList, c]
  simp only [Prod.mk.injEq] at e1
  have := lit_str e1.1
  rw [this, strOf_toList]
noncomputable def hold (os : Os) : World := World.holding Tryd.prog os ⟨#[], #[], []⟩
/-- the runes' ranges -/
def ACC : List Int := [128, 191, 160, 191, 128, 159, 144, 191, 128, 143, 0, 0, 0, 0, 0, 0, 0, 0, 0, 0, 0, 0, 0, 0, 0, 0, 0, 0, 0, 0, 0, 0]
/-- the tables as their initialisers lay them -/
noncomputable def laidHeap (h : Array Obj) : Array Obj :=
  (((h.modify 0 fun
      | .cells _ t frozen => .cells (TG.map fun n : Int => Value.int .i64 n).toArray t frozen
      | o => o).modify 1 fun
      | .cells _ t frozen => .cells (swA.map fun l : List UInt8 => Value.string (strOf l)).toArray t frozen
      | o => o).modify 4 fun
      | .cells _ t frozen => .cells (Go.Pinned.utf8FirstZ.map fun n : Nat => Value.int .u8 n).toArray t frozen
      | o => o).modify 5 fun
      | .cells _ t frozen => .cells (ACC.map fun n : Int => Value.int .u8 n).toArray t frozen
      | o => o
theorem laid_met (os : Os) : laidMet Tryd.prog Rows.ringParsesRow.laid (({ hold os with heap := laidHeap (hold os).heap } : World).forCall (fun _ _ => 0) ⟨#[], #[.string .empty], []⟩).memory :=
  laidMet_of_run' 8 (by kernel_rfl) (by kernel_rfl)
theorem reads (os : Os) {H : Type} (enc : TypeId × Value → H) : ∃ places, DataW.whole enc Tryd.prog (({ hold os with heap := laidHeap (hold os).heap } : World).forCall (fun _ _ => 0) ⟨#[], #[.string .empty], []⟩).memory Tryd.f3.params.toList Rows.ringParsesSpec.vars false (#[.string .empty] : Array Value).toList 8 = some ([.lit (.string [])], [], places) :=
  ⟨[], by kernel_rfl⟩
set_option maxRecDepth 100000 in
theorem contract (H : Type) (enc : TypeId × Value → H) (W : World) (base : Nat) (args : Array Value) (ds gs : List (DataW H)) (before : List MemPlace)
    (hval : ∀ (j : Nat) t v, Tryd.f3.params[j]? = some t → args[j]? = some v → Value.okWide Tryd.prog W .any base t v)
    (hW : DataW.Whole enc Tryd.prog Tryd.f3.params.toList Rows.ringParsesSpec.vars false W args.toList ds gs before) (hsz : (DataW.weightsEach Tryd.prog (Tryd.f3.params.toList ++ (OpenSpec.ofChange Rows.ringParsesSpec).bare.plain.varTypes Tryd.prog) (ds ++ gs)).all (· ≤ reachBytes) = true) (hL : laidMetH Tryd.prog Rows.ringParsesRow.laid W) (hsh : W.ShapedOpen Tryd.prog) :
    Calls Tryd.prog 3 args W fun e W' => ∃ v, e = .returned v ∧ Rows.ringParsesSpec.post enc Tryd.prog Tryd.f3 false true false false W args v W' := by
  have hW' := hW
  obtain ⟨p, q, hA0, hV, rfl, hfz, hnd⟩ := hW
  have hA : DataW.TrodAll enc Tryd.prog W 0 (fun _ => true) true Tryd.f3.params.toList args.toList ds p := hA0
  rw [Tryd.params3] at hA hval hsz
  obtain ⟨v0, vs0, d0, ds0, p0, q0, hargs0, rfl, rfl, h0, r0⟩ := trodAll_cons hA
  obtain ⟨rfl, rfl, rfl⟩ := trodAll_nil r0
  obtain rfl : args = #[v0] := by cases args; simp_all
  obtain ⟨rfl, rfl⟩ := trodVars_none hV
  obtain ⟨s0, rfl, rfl, rfl, hmax0⟩ := open_string Tryd.underlying9 (hval 0 9 v0 rfl rfl) h0
  have hz0 := sized_string hsz (j := 0) rfl rfl
  have hz1 : s0.data.toList.length ≤ 4611686018427387904 := by unfold reachBytes at hz0; omega
  obtain ⟨mx, hmx⟩ : ∃ m, W.cell? ⟨2, 0, none⟩ = some (.int .i64 m) := Go.Proofs.cell_of_shapedOpen_int (zero := #[.int .i64 0]) (t := 3) hsh (of_decide_eq_true (by kernel_rfl)) (by kernel_rfl) rfl (by kernel_rfl) (by kernel_rfl) Tryd.underlying3
  have law := parses_any W s0.data.toList mx hmx (words_of hL) (tabs_of hL) hz1
  rw [strOf_toList] at law
  clear hA0
  simp only [List.append_nil] at hW'
  refine law.mono fun e W' ⟨he, hnx⟩ => ?_
  subst he
  refine ⟨_, rfl, _, _, _, [], [], [], hW', trodAll_cons_mk (shut_bool Tryd.underlying4 _) trodAll_mk0, ?_, rfl, hnx.frame _, fun h => by cases h⟩
  exact trodAll_cons_mk (shut_string Tryd.underlying9 hmax0) trodAll_mk0
set_option maxRecDepth 100000 in
theorem lifted (os : Os) (started : os.Started) (H : Type) (enc : TypeId × Value → H) (F : Stop.Interp) :
    ReturnsInHanded {} Tryd.checked os 3 .any ((OpenSpec.ofChange Rows.ringParsesSpec).preRow enc Tryd.prog Tryd.f3 Rows.ringParsesRow.domain false Rows.ringParsesRow.laid) (((OpenSpec.ofChange Rows.ringParsesSpec).at F).post enc Tryd.prog Tryd.f3 false true false false) := by
  obtain ⟨places, hx⟩ := reads os enc
  refine returnsInHanded_of_row (C := Tryd.checked) (s := OpenSpec.ofChange Rows.ringParsesSpec) ownK started (by kernel_rfl) Tryd.func3
    (witness_row_atRef (enc := enc) (C := Tryd.checked) false { hold os with heap := laidHeap (hold os).heap } #[.string .empty] rfl (by kernel_rfl) (by kernel_rfl) (by kernel_rfl)
      (OpenSpec.preRow_of_cond 8 hx (by kernel_rfl) (fun k hk => by cases hk) (by kernel_rfl) (laid_met os))) ?_
  intro W base args ds gs before hval hW _ _ hsz hL hsh _
  exact contract H enc W base args ds gs before hval hW hsz hL hsh
theorem said : Rows.RingParsesSaid :=
  OpenClaim.holds_of_cond 3 Tryd.f3 rfl rfl rfl rfl rfl rfl rfl ⟨rfl, rfl, rfl, rfl, rfl⟩ rfl rfl rfl rfl rfl (by kernel_rfl) Tryd.func3 (by kernel_rfl)
    (of_decide_eq_true (by kernel_rfl)) (by unfold Func.isWrapper; first | (rw [if_pos (by decide +kernel)]; kernel_rfl) | (rw [if_neg (by decide +kernel)]; exact ⟨rfl, rfl⟩))
    (fun os started H enc _ F => by rw [OpenClaim.pre_eq_preRow]; exact lifted os started H enc F)
theorem plain (f : FuncId) (fn : Func) (hf : Tryd.pinned.checked.prog.funcNamed Rows.ringParsesRow.func = some f) (hfn : Tryd.pinned.checked.prog.funcs[f]? = some fn) :
    false = Tryd.pinned.checked.prog.looks [] ∧ ∀ (j : Nat) t, fn.params[j]? = some t → Tryd.pinned.checked.prog.wantsStandIn t = false := by
  obtain rfl : f = 3 := Option.some.inj ((show Tryd.prog.funcNamed Rows.ringParsesRow.func = some 3 by kernel_rfl).symm.trans hf) |>.symm
  obtain rfl : fn = Tryd.f3 := (Option.some.inj (Tryd.func3.symm.trans hfn)).symm
  refine ⟨by kernel_rfl, fun j t ht => ?_⟩
  rw [Tryd.params3] at ht
  have hm := Array.mem_of_getElem? ht
  simp at hm
  rcases hm with rfl
  · exact (show Tryd.prog.wantsStandIn 9 = false by kernel_rfl)
theorem card : Rows.RingParsesCardSaid :=
  Claim7.holds_tied_plain_at .later [] _ _ _ _ said (fun _ h => by cases h) (by kernel_rfl) (fun _ h => by cases h) ringParses_row_tie rfl ⟨rfl, rfl⟩ (by kernel_rfl) rfl plain (by kernel_rfl)
end Go.Proofs.YtanlnelfbfjelaaDoor
