import Derived.Test.YtfcghfllhcjmnaaDoorCards
import Derived.Test.YtfcghfllhcjmnaaDoorTie
import Derived.Test.YtfcghfllhcjmnaaDoorDkTabs
import Derived.Test.YtfcghfllhcjmnaaDoorDrLaw
import Derived.ProofKit
import Derived.OpenShut
import Derived.SizedLaws
import Derived.SliceStrings
import Derived.Deep.DeepHandedRow
namespace Go.Proofs.YtfcghfllhcjmnaaDoor
open Go.ChangeShapes Go.WideShapes Go.ChangeAt Go.RowKit
open Go.ChangeMaps (open_string shut_string)
theorem ownK : ownKnob Tryd.prog.godebug = none := by kernel_rfl
theorem laidOutP : laidOutB Tryd.prog = true := by kernel_rfl
open Go.Lib
def PW : List Int := [1, 2, 4, 8, 16, 32, 64, 128, 256, 512, 1024, 2048, 4096, 8192, 16384, 32768, 65536, 131072, 262144, 524288, 1048576, 2097152, 4194304, 8388608, 16777216, 33554432, 67108864, 134217728, 268435456, 536870912, 1073741824, 2147483648]
theorem hName0 : Tryd.prog.globalNamed Rows.digestMD5sUptoRow.laid[0].1 = some 3 := by kernel_rfl
theorem hName1 : Tryd.prog.globalNamed Rows.digestMD5sUptoRow.laid[1].1 = some 4 := by kernel_rfl
theorem hName2 : Tryd.prog.globalNamed Rows.digestMD5sUptoRow.laid[2].1 = some 5 := by kernel_rfl
theorem hName3 : Tryd.prog.globalNamed Rows.digestMD5sUptoRow.laid[3].1 = some 1 := by kernel_rfl
theorem hName4 : Tryd.prog.globalNamed Rows.digestMD5sUptoRow.laid[4].1 = some 2 := by kernel_rfl
theorem hType0 : (Tryd.prog.globals[3]?).map (·.type) = some 98 := by kernel_rfl
theorem hType1 : (Tryd.prog.globals[4]?).map (·.type) = some 99 := by kernel_rfl
theorem hType2 : (Tryd.prog.globals[5]?).map (·.type) = some 105 := by kernel_rfl
theorem cellsA : Tryd.prog.cellsOf 98 = 64 := by kernel_rfl
theorem cellsB : Tryd.prog.cellsOf 99 = 16 := by kernel_rfl
theorem cellsC : Tryd.prog.cellsOf 105 = 32 := by kernel_rfl
theorem allTabs_of {W : World} (h : laidMet Tryd.prog Rows.digestMD5sUptoRow.laid W) : AllTabs W := by
  have h0 : VarReads Tryd.prog W Rows.digestMD5sUptoRow.laid[0].1 Rows.digestMD5sUptoRow.laid[0].2 := laidMet.reads h (List.getElem_mem _)
  have h1 : VarReads Tryd.prog W Rows.digestMD5sUptoRow.laid[1].1 Rows.digestMD5sUptoRow.laid[1].2 := laidMet.reads h (List.getElem_mem _)
  have h2 : VarReads Tryd.prog W Rows.digestMD5sUptoRow.laid[2].1 Rows.digestMD5sUptoRow.laid[2].2 := laidMet.reads h (List.getElem_mem _)
  have h3 : VarReads Tryd.prog W Rows.digestMD5sUptoRow.laid[3].1 Rows.digestMD5sUptoRow.laid[3].2 := laidMet.reads h (List.getElem_mem _)
  have h4 : VarReads Tryd.prog W Rows.digestMD5sUptoRow.laid[4].1 Rows.digestMD5sUptoRow.laid[4].2 := laidMet.reads h (List.getElem_mem _)
  have t0 := tab_of (zs := SN) h0 rfl hName0 hType0 Tryd.underlying98 Tryd.underlying3 cells3 cellsA
  have t1 := tab_of (zs := TN) h1 rfl hName1 hType1 Tryd.underlying99 Tryd.underlying3 cells3 cellsB
  have t2 := tab_of (zs := PW) h2 rfl hName2 hType2 Tryd.underlying105 Tryd.underlying3 cells3 cellsC
  have t3 := tab_of (zs := SN) h3 rfl hName3 gType1 Tryd.underlying78 Tryd.underlying48 cells48 cells64
  have eS : ∀ m : Fin 64, SN.getD m.1 0 = (sin m.1 : Int) := by decide +kernel
  have eT : ∀ m : Fin 16, TN.getD m.1 0 = (trn m.1 : Int) := by decide +kernel
  have eP : ∀ m : Fin 32, PW.getD m.1 0 = ((2 ^ m.1 : Nat) : Int) := by decide +kernel
  have a0 : TabRS 3 W := fun j hj => by rw [t0.cell hName0 j (by exact hj), eS ⟨j, hj⟩]
  have a1 : TabT 4 W := fun j hj => by rw [t1.cell hName1 j (by exact hj), eT ⟨j, hj⟩]
  have a2 : TabRP 5 W := fun j hj => by rw [t2.cell hName2 j (by exact hj), eP ⟨j, hj⟩]
  have a3 : TabS 1 W := fun j hj => by rw [t3.cell hName3 j (by exact hj), eS ⟨j, hj⟩]
  have a4 : TabT 2 W := fun j hj => by
    obtain ⟨g', t', cs, fuel, p, hg', ht', hvar, hdd⟩ := h4
    obtain rfl := Option.some.inj (hName4.symm.trans hg')
    obtain rfl := Option.some.inj (gType2.symm.trans ht')
    have := turns_cells hdd j hj
    rw [World.var?_cell hName4 hvar j]
    simpa using this
  exact ⟨a3, a4, World.block_lt_of_cell? W _ (a4 0 (by omega)), a0, a1, a2, World.block_lt_of_cell? W _ (a0 0 (by omega)), World.block_lt_of_cell? W _ (a1 0 (by omega)), World.block_lt_of_cell? W _ (a2 0 (by omega))⟩
/-- the five tables as their initialisers lay them -/
def laidHeap (h : Array Obj) : Array Obj :=
  ((((h.modify 1 fun
      | .cells _ t frozen => .cells (SN.map fun n : Int => Value.int .u32 n).toArray t frozen
      | o => o).modify 2 fun
      | .cells _ t frozen => .cells (TN.map fun n : Int => Value.int .i64 n).toArray t frozen
      | o => o).modify 3 fun
      | .cells _ t frozen => .cells (SN.map fun n : Int => Value.int .i64 n).toArray t frozen
      | o => o).modify 4 fun
      | .cells _ t frozen => .cells (TN.map fun n : Int => Value.int .i64 n).toArray t frozen
      | o => o).modify 5 fun
      | .cells _ t frozen => .cells (PW.map fun n : Int => Value.int .i64 n).toArray t frozen
      | o => o
theorem laid_met (os : Os) : laidMet Tryd.prog Rows.digestMD5sUptoRow.laid (({ World.holding Tryd.prog os ⟨#[], #[], []⟩ with heap := laidHeap (World.holding Tryd.prog os ⟨#[], #[], []⟩).heap } : World).forCall (fun _ _ => 0) ⟨#[], #[.slice none 0 0], []⟩).memory :=
  laidMet_of_run' 8 (by kernel_rfl) (by kernel_rfl)
theorem reads (os : Os) {H : Type} (enc : TypeId × Value → H) : ∃ places, DataW.whole enc Tryd.prog (({ World.holding Tryd.prog os ⟨#[], #[], []⟩ with heap := laidHeap (World.holding Tryd.prog os ⟨#[], #[], []⟩).heap } : World).forCall (fun _ _ => 0) ⟨#[], #[.slice none 0 0], []⟩).memory Tryd.f8.params.toList Rows.digestMD5sSpec.vars false (#[.slice none 0 0] : Array Value).toList 8 = some ([.nil], [], places) :=
  ⟨[], by kernel_rfl⟩
theorem cells9P : Tryd.prog.cellsOf 9 = 1 := by kernel_rfl
theorem bulk_strs {H : Type} (ss : List ByteArray) : Rows.uptoBulkAll (strs (H := H) ss) = (cat ss).length + ss.length := by
  induction ss with
  | nil => rfl
  | cons s ss ih =>
    have e : strs (H := H) (s :: ss) = .lit (.string s.data.toList) :: strs ss := rfl
    have e2 : cat (s :: ss) = s.data.toList ++ cat ss := by simp [cat]
    rw [e, Rows.uptoBulkAll, ih, e2, List.length_append]
    simp only [Rows.uptoBulk, List.length_cons]
    omega
set_option maxRecDepth 100000 in
theorem contract (H : Type) (enc : TypeId × Value → H) (W : World) (base : Nat) (args : Array Value) (ds gs : List (DataW H)) (before : List MemPlace)
    (hval : ∀ (j : Nat) t v, Tryd.f8.params[j]? = some t → args[j]? = some v → Value.okWide Tryd.prog W .any base t v)
    (hW : DataW.Whole enc Tryd.prog Tryd.f8.params.toList Rows.digestMD5sSpec.vars false W args.toList ds gs before) (hk : Rows.uptoSmall H (ds ++ gs) = true) (hL : laidMetH Tryd.prog Rows.digestMD5sUptoRow.laid W) :
    Calls Tryd.prog 8 args W fun e W' => ∃ v, e = .returned v ∧ Rows.digestMD5sSpec.post enc Tryd.prog Tryd.f8 false true false false W args v W' := by
  have hW' := hW
  obtain ⟨p, q, hA0, hV, rfl, hfz, hnd⟩ := hW
  have hA : DataW.TrodAll enc Tryd.prog W 0 (fun _ => true) true Tryd.f8.params.toList args.toList ds p := hA0
  rw [Tryd.params8] at hA hval
  obtain ⟨v0, vs0, d0, ds0, p0, q0, hargs, rfl, rfl, h0, r0⟩ := trodAll_cons hA
  obtain ⟨rfl, rfl, rfl⟩ := trodAll_nil r0
  obtain rfl : args = #[v0] := by cases args; simp_all
  obtain ⟨rfl, rfl⟩ := trodVars_none hV
  obtain ⟨a0, len, cap, rfl⟩ := okWide_slice Tryd.underlying26 (hval 0 26 v0 rfl rfl)
  have h0k := h0
  obtain ⟨fuel, hf⟩ := h0
  clear hA0
  simp only [List.append_nil] at hW'
  have hlt : ∀ x ∈ p0, x.block < W.heap.size := fun x hx => by simpa using hW'.lt x hx
  have fin : ∀ W', Below W.heap.size W W' → Rows.digestMD5sSpec.post enc Tryd.prog Tryd.f8 false true false false W #[.slice a0 len cap] (.bool true) W' := by
    intro W' hnx
    refine ⟨_, _, _, [], p0, [], hW', ?_, ?_, rfl, hnx.frame _, fun h => by cases h⟩
    · exact trodAll_cons_mk (shut_bool Tryd.underlying4 _) trodAll_mk0
    · exact trodAll_mk1 (Below.trod laidOutP (by kernel_rfl) (of_decide_eq_true (by kernel_rfl)) h0k hnx hlt)
  have none_end : len = 0 → Calls Tryd.prog 8 #[.slice a0 len cap] W fun e W' => ∃ v, e = .returned v ∧ Rows.digestMD5sSpec.post enc Tryd.prog Tryd.f8 false true false false W #[.slice a0 len cap] v W' := by
    intro hl0
    subst hl0
    refine (md5s_any a0 0 0 cap [] W (fun h => by simp at h) (fun h => by simp at h) (fun j x hx => by simp at hx) (by simp) (by simp [cat]) (allTabs_of hL)).mono fun e W' ⟨he, hw⟩ => ?_
    subst he
    exact ⟨_, rfl, fin _ hw⟩
  rcases open_strings Tryd.underlying26 Tryd.underlying9 cells9P hf with ⟨hcs, hx⟩ | ⟨a, len', cap', ss, hcs, _, hl, hm, hz, hx, hcell, hws⟩
  · simp [Value.cells] at hcs
    obtain ⟨rfl, rfl, rfl⟩ := hcs
    exact none_end rfl
  · simp [Value.cells] at hcs
    obtain ⟨rfl, rfl, rfl⟩ := hcs
    simp only [Prod.mk.injEq] at hx
    obtain ⟨rfl, rfl⟩ := hx
    simp only [if_true] at hz
    by_cases hl0 : len = 0
    · exact none_end hl0
    · have hkd := of_decide_eq_true hk
      simp only [List.append_nil, Rows.uptoBulkAll, Rows.uptoBulk, bulk_strs] at hkd
      have hlen : (ss.take len).length = len := by rw [List.length_take]; omega
      obtain ⟨b, off, spot⟩ := a
      have hspot : spot = none := by simpa [Addr.add] using World.cell?_spot (hcell 0 (by omega))
      subst hspot
      have hbW : b < W.heap.size := hlt (.cell b off) (MemPlace.mem_row.2 ⟨0, by omega, by simp⟩)
      have hcells : Lies b off W (ss.take len) := by
        intro j x hx
        obtain ⟨hj, hx⟩ := List.getElem?_eq_some_iff.1 hx
        have hj2 : j < ss.length := by omega
        have := hcell j hj2
        rw [add_plain] at this
        rw [this, List.getD_eq_getElem?_getD, List.getElem?_eq_getElem hj2, Option.getD_some, ← hx, List.getElem_take]
      have walk := md5s_any (some ⟨b, off, none⟩) b off cap (ss.take len) W (fun _ => rfl) (fun _ => hbW) hcells (by omega) (by omega) (allTabs_of hL)
      rw [hlen] at walk
      refine walk.mono fun e W' ⟨he, hnx⟩ => ?_
      subst he
      exact ⟨_, rfl, fin _ hnx⟩
set_option maxRecDepth 100000 in
theorem liftedUpto (os : Os) (started : os.Started) (H : Type) (enc : TypeId × Value → H) (F : Stop.Interp) :
    ReturnsInHanded {} Tryd.checked os 8 .any ((Rows.OpenSpec.upto Rows.digestMD5sSpec).preRow enc Tryd.prog Tryd.f8 Rows.digestMD5sUptoRow.domain false Rows.digestMD5sUptoRow.laid) (((Rows.OpenSpec.upto Rows.digestMD5sSpec).at F).post enc Tryd.prog Tryd.f8 false true false false) := by
  obtain ⟨places, hx⟩ := reads os enc
  refine returnsInHanded_of_row (C := Tryd.checked) (s := Rows.OpenSpec.upto Rows.digestMD5sSpec) ownK started (by kernel_rfl) Tryd.func8
    (witness_row_at (enc := enc) (C := Tryd.checked) false { World.holding Tryd.prog os ⟨#[], #[], []⟩ with heap := laidHeap (World.holding Tryd.prog os ⟨#[], #[], []⟩).heap } #[.slice none 0 0] rfl (by kernel_rfl) (by kernel_rfl) (by kernel_rfl)
      (OpenSpec.preRow_of_cond 8 hx (by kernel_rfl) (fun k hk => by cases hk; kernel_rfl) (by kernel_rfl) (laid_met os))) ?_
  intro W base args ds gs before hval hW _ hcond _ hL _ _
  exact contract H enc W base args ds gs before hval hW (hcond _ rfl) hL
theorem saidUpto : Rows.DigestMD5sUptoSaid :=
  OpenClaim.holds_of_cond 8 Tryd.f8 rfl rfl rfl rfl rfl rfl rfl ⟨rfl, rfl, rfl, rfl, rfl⟩ rfl rfl rfl rfl rfl (by kernel_rfl) Tryd.func8 (by kernel_rfl)
    (of_decide_eq_true (by kernel_rfl)) (by unfold Func.isWrapper; first | (rw [if_pos (by decide +kernel)]; kernel_rfl) | (rw [if_neg (by decide +kernel)]; exact ⟨rfl, rfl⟩))
    (fun os started H enc _ F => by rw [OpenClaim.pre_eq_preRow]; exact liftedUpto os started H enc F)
theorem plain (f : FuncId) (fn : Func) (hf : Tryd.pinned.checked.prog.funcNamed Rows.digestMD5sUptoRow.func = some f) (hfn : Tryd.pinned.checked.prog.funcs[f]? = some fn) :
    false = Tryd.pinned.checked.prog.looks [] ∧ ∀ (j : Nat) t, fn.params[j]? = some t → Tryd.pinned.checked.prog.wantsStandIn t = false := by
  obtain rfl : f = 8 := Option.some.inj ((show Tryd.prog.funcNamed Rows.digestMD5sUptoRow.func = some 8 by kernel_rfl).symm.trans hf) |>.symm
  obtain rfl : fn = Tryd.f8 := (Option.some.inj (Tryd.func8.symm.trans hfn)).symm
  refine ⟨by kernel_rfl, fun j t ht => ?_⟩
  rw [Tryd.params8] at ht
  have hm := Array.mem_of_getElem? ht
  simp at hm
  subst hm
  exact (show Tryd.prog.wantsStandIn 26 = false by kernel_rfl)
theorem card : Rows.DigestMD5sUptoCardSaid :=
  Claim7.holds_tied_plain_at .later [] _ _ _ _ saidUpto (fun _ h => by cases h) (by kernel_rfl) (fun _ h => by cases h) digestMD5sUpto_row_tie rfl ⟨rfl, rfl⟩ (by kernel_rfl) rfl plain (by kernel_rfl)
end Go.Proofs.YtfcghfllhcjmnaaDoor
