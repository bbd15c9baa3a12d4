import Derived.Test.YtfpalfpfijcpbaaGreatDoorCards
import Derived.Test.YtfpalfpfijcpbaaGreatDoorTie
import Derived.Lib.LaidTab
import Derived.Lib.LaidU8
import Derived.Lib.SmallJoins
import Derived.Test.YtfpalfpfijcpbaaGreatDoorGPtFit
import Derived.Test.YtfpalfpfijcpbaaGreatDoorPmOpen
import Derived.Test.YtfpalfpfijcpbaaGreatDoorPvLaw
import Derived.JoinedOf
import Derived.ProofKit
import Derived.OpenShut
import Derived.SizedLaws
import Derived.Deep.DeepHandedRow
namespace Go.Proofs.YtfpalfpfijcpbaaGreatDoor
open Go.ChangeShapes Go.WideShapes Go.ChangeAt Go.RowKit
open Go.ChangeMaps (open_string shut_string)
open Go.Joins (open_agg4 shut_agg4)
theorem ownK : ownKnob Tryz.prog.godebug = none := by kernel_rfl
theorem laidOutP : laidOutB Tryz.prog = true := by kernel_rfl
open Go.Lib
theorem gName2 : Tryz.prog.globalNamed Rows.paperSpoiltUptoRow.laid[2].1 = some 4 := by kernel_rfl
theorem gType2 : (Tryz.prog.globals[4]?).map (·.type) = some 202 := by kernel_rfl
theorem gName3 : Tryz.prog.globalNamed Rows.paperSpoiltUptoRow.laid[3].1 = some 0 := by kernel_rfl
theorem gType3 : (Tryz.prog.globals[0]?).map (·.type) = some 167 := by kernel_rfl
theorem gName4 : Tryz.prog.globalNamed Rows.paperSpoiltUptoRow.laid[4].1 = some 2 := by kernel_rfl
theorem gType4 : (Tryz.prog.globals[2]?).map (·.type) = some 192 := by kernel_rfl
theorem gName5 : Tryz.prog.globalNamed Rows.paperSpoiltUptoRow.laid[5].1 = some 3 := by kernel_rfl
theorem gType5 : (Tryz.prog.globals[3]?).map (·.type) = some 195 := by kernel_rfl
theorem cellsPtr : Tryz.prog.cellsOf 25 = 4 := by kernel_rfl
theorem cells64 : Tryz.prog.cellsOf 192 = 64 := by kernel_rfl
theorem cells3 : Tryz.prog.cellsOf 3 = 1 := by kernel_rfl
theorem cells4 : Tryz.prog.cellsOf 194 = 4 := by kernel_rfl
theorem cells44 : Tryz.prog.cellsOf 195 = 16 := by kernel_rfl
theorem cellsU32 : Tryz.prog.cellsOf 145 = 1 := by kernel_rfl
theorem cellsA32 : Tryz.prog.cellsOf 167 = 16 := by kernel_rfl
theorem cellsU64 : Tryz.prog.cellsOf 171 = 1 := by kernel_rfl
theorem cellsA64 : Tryz.prog.cellsOf 202 = 20 := by kernel_rfl
theorem tab_of {W : World} {name : String} {d : DataW Unit} {k : IntKind} {zs : List Int} {g : Nat} {t e : TypeId} {n : Nat} (h : VarReads Tryz.prog W name d) (hd : d = tabData k zs)
    (hg : Tryz.prog.globalNamed name = some g) (hty : (Tryz.prog.globals[g]?).map (·.type) = some t) (ht : Tryz.prog.underlying t = some (.array n e)) (he : Tryz.prog.underlying e = some (.int k)) (hce : Tryz.prog.cellsOf e = 1) (hct : Tryz.prog.cellsOf t = n) : TabIs Tryz.prog W name k zs := by
  obtain ⟨g', t', cs, fuel, p, hg', ht', hvar, hdd⟩ := h
  obtain rfl := Option.some.inj (hg.symm.trans hg')
  obtain rfl := Option.some.inj (hty.symm.trans ht')
  subst hd
  unfold TabIs
  rw [hvar, ← cells_of_tab ht he hce hct hdd]
def turnRows : List (List Int) := [[7, 12, 17, 22], [5, 9, 14, 20], [4, 11, 16, 23], [6, 10, 15, 21]]
theorem turns_cells {W : World} {fuel : Nat} {cs : List Value} {p : List MemPlace} {sp : Nat → Bool} (h : DataW.trod (fun _ => ()) Tryz.prog W 0 sp false fuel 195 cs = some (.agg (turnRows.map fun r => tabData .i64 r), p)) :
    ∀ j, j < 16 → cs[j]? = some (.int .i64 (trn j : Int)) := by
  cases fuel with
  | zero => simp [DataW.trod] at h
  | succ fuel =>
    simp only [DataW.trod, Tryz.underlying195, cells4, cells44] at h
    split at h
    · obtain ⟨xs, hm, hx⟩ := Option.map_eq_some_iff.1 h
      have hxs : xs.map (·.1) = turnRows.map fun r => (tabData .i64 r : DataW Unit) := by
        have := congrArg Prod.fst hx
        simpa using this
      have row : ∀ i, i < 4 → ∀ r, turnRows[i]? = some r → (cs.drop (i * 4)).take 4 = r.map fun z => Value.int .i64 z := by
        intro i hi r hr
        obtain ⟨b, hb, hf⟩ := mapM_at hm i i (by simp [hi])
        have h2 : (xs.map (·.1))[i]? = some b.1 := by simp [hb]
        rw [hxs, List.getElem?_map, hr] at h2
        have h3 : b.1 = tabData .i64 r := (Option.some.inj h2).symm
        obtain ⟨b1, b2⟩ := b
        subst h3
        exact cells_of_tab Tryz.underlying194 Tryz.underlying3 cells3 cells4 hf
      intro j hj
      have hq := row (j / 4) (by omega)
      have hcell : cs[j]? = ((cs.drop (j / 4 * 4)).take 4)[j % 4]? := by
        rw [List.getElem?_take_of_lt (by omega), List.getElem?_drop]
        congr 1
        omega
      have key : ∃ r, turnRows[j / 4]? = some r ∧ (r.map fun z => Value.int .i64 z)[j % 4]? = some (.int .i64 (trn j : Int)) := by
        clear hq hcell
        rcases (show j = 0 ∨ j = 1 ∨ j = 2 ∨ j = 3 ∨ j = 4 ∨ j = 5 ∨ j = 6 ∨ j = 7 ∨ j = 8 ∨ j = 9 ∨ j = 10 ∨ j = 11 ∨ j = 12 ∨ j = 13 ∨ j = 14 ∨ j = 15 by omega) with rfl | rfl | rfl | rfl | rfl | rfl | rfl | rfl | rfl | rfl | rfl | rfl | rfl | rfl | rfl | rfl <;> exact ⟨_, rfl, rfl⟩
      obtain ⟨r, hr1, hr2⟩ := key
      rw [hcell, hq r hr1]
      exact hr2
    · cases h
theorem tabs_of {W : World} (h : laidMet Tryz.prog Rows.paperSpoiltUptoRow.laid W) : TabM W := by
  have h0 : VarReads Tryz.prog W Rows.paperSpoiltUptoRow.laid[3].1 Rows.paperSpoiltUptoRow.laid[3].2 := laidMet.reads h (List.getElem_mem _)
  have h1 : VarReads Tryz.prog W Rows.paperSpoiltUptoRow.laid[4].1 Rows.paperSpoiltUptoRow.laid[4].2 := laidMet.reads h (List.getElem_mem _)
  have h2 : VarReads Tryz.prog W Rows.paperSpoiltUptoRow.laid[5].1 Rows.paperSpoiltUptoRow.laid[5].2 := laidMet.reads h (List.getElem_mem _)
  have t0 := tab_of (zs := T4) h0 rfl gName3 gType3 Tryz.underlying167 Tryz.underlying145 cellsU32 cellsA32
  have t1 := tab_of (zs := SN) h1 rfl gName4 gType4 Tryz.underlying192 Tryz.underlying145 cellsU32 cells64
  have t2 : TabT 3 W := fun j hj => by
    obtain ⟨g', t', cs, fuel, p, hg', ht', hvar, hdd⟩ := h2
    obtain rfl := Option.some.inj (gName5.symm.trans hg')
    obtain rfl := Option.some.inj (gType5.symm.trans ht')
    have := turns_cells hdd j hj
    rw [World.var?_cell gName5 hvar j]
    simpa using this
  refine ⟨fun j hj => ?_, fun j hj => ?_, t2, World.block_lt_of_cell? W _ (t2 0 (by omega))⟩
  · rw [t0.cell gName3 j (by exact hj), t4_int j hj]
  · rw [t1.cell gName4 j (by exact hj)]
    have : ∀ m : Fin 64, SN.getD m.1 0 = (sin m.1 : Int) := by decide +kernel
    rw [this ⟨j, hj⟩]
theorem pow_of {W : World} (h : laidMet Tryz.prog Rows.paperSpoiltUptoRow.laid W) : Pow W := by
  have h0 : VarReads Tryz.prog W Rows.paperSpoiltUptoRow.laid[2].1 Rows.paperSpoiltUptoRow.laid[2].2 := laidMet.reads h (List.getElem_mem _)
  exact tab_of (zs := Lib.pow10Tab) h0 (by kernel_rfl) gName2 gType2 Tryz.underlying202 Tryz.underlying171 cellsU64 cellsA64
def D32 : List Int := [0, 1, 28, 2, 29, 14, 24, 3, 30, 22, 20, 15, 25, 17, 4, 8, 31, 27, 13, 23, 21, 19, 16, 7, 26, 12, 18, 6, 11, 5, 10, 9]
def D64 : List Int := [0, 1, 56, 2, 57, 49, 28, 3, 61, 58, 42, 50, 38, 29, 17, 4, 62, 47, 59, 36, 45, 43, 51, 22, 53, 39, 33, 30, 24, 18, 12, 5, 63, 55, 48, 27, 60, 41, 37, 16, 46, 35, 44, 21, 52, 32, 23, 11, 54, 26, 40, 15, 34, 20, 31, 10, 25, 14, 19, 9, 13, 8, 7, 6]
/-- the tables as their initialisers lay them -/
def laidHeap (h : Array Obj) : Array Obj :=
  ((((((h.modify 0 fun
      | .cells _ t frozen => .cells (T4.map fun n : Int => Value.int .u32 n).toArray t frozen
      | o => o).modify 4 fun
      | .cells _ t frozen => .cells (Lib.pow10Tab.map fun n : Int => Value.int .u64 n).toArray t frozen
      | o => o).modify 6 fun
      | .cells _ t frozen => .cells (D32.map fun n : Int => Value.int .u8 n).toArray t frozen
      | o => o).modify 7 fun
      | .cells _ t frozen => .cells (D64.map fun n : Int => Value.int .u8 n).toArray t frozen
      | o => o).modify 2 fun
      | .cells _ t frozen => .cells (SN.map fun n : Int => Value.int .u32 n).toArray t frozen
      | o => o).modify 3 fun
      | .cells _ t frozen => .cells (turnRows.flatten.map fun n : Int => Value.int .i64 n).toArray t frozen
      | o => o)
theorem laid_met (os : Os) : laidMet Tryz.prog Rows.paperSpoiltUptoRow.laid (({ World.holding Tryz.prog os ⟨#[], #[], []⟩ with heap := laidHeap (World.holding Tryz.prog os ⟨#[], #[], []⟩).heap } : World).forCall (fun _ _ => 0) ⟨#[], #[.agg #[.string .empty, .int .i64 0, .int .i64 0, .int .i64 0, .int .i64 0, .int .i64 0, .int .i64 0, .int .i64 0], .agg #[.int .i64 0, .int .i64 0, .int .i64 0, .int .i64 0], .slice none 0 0, .int .i64 0, .int .i64 0, .string .empty], []⟩).memory :=
  laidMet_of_run' 8 (by kernel_rfl) (by kernel_rfl)
theorem reads (os : Os) {H : Type} (enc : TypeId × Value → H) : ∃ places, DataW.whole enc Tryz.prog (({ World.holding Tryz.prog os ⟨#[], #[], []⟩ with heap := laidHeap (World.holding Tryz.prog os ⟨#[], #[], []⟩).heap } : World).forCall (fun _ _ => 0) ⟨#[], #[.agg #[.string .empty, .int .i64 0, .int .i64 0, .int .i64 0, .int .i64 0, .int .i64 0, .int .i64 0, .int .i64 0], .agg #[.int .i64 0, .int .i64 0, .int .i64 0, .int .i64 0], .slice none 0 0, .int .i64 0, .int .i64 0, .string .empty], []⟩).memory Tryz.f7.params.toList Rows.paperSpoiltSpec.vars false (#[.agg #[.string .empty, .int .i64 0, .int .i64 0, .int .i64 0, .int .i64 0, .int .i64 0, .int .i64 0, .int .i64 0], .agg #[.int .i64 0, .int .i64 0, .int .i64 0, .int .i64 0], .slice none 0 0, .int .i64 0, .int .i64 0, .string .empty] : Array Value).toList 8 = some ([.agg [.lit (.string []), .lit (.int .i64 0), .lit (.int .i64 0), .lit (.int .i64 0), .lit (.int .i64 0), .lit (.int .i64 0), .lit (.int .i64 0), .lit (.int .i64 0)], .agg [.lit (.int .i64 0), .lit (.int .i64 0), .lit (.int .i64 0), .lit (.int .i64 0)], .nil, .lit (.int .i64 0), .lit (.int .i64 0), .lit (.string [])], [], places) :=
  ⟨[], by kernel_rfl⟩
set_option maxRecDepth 100000 in
theorem contract (H : Type) (enc : TypeId × Value → H) (W : World) (base : Nat) (args : Array Value) (ds gs : List (DataW H)) (before : List MemPlace)
    (hval : ∀ (j : Nat) t v, Tryz.f7.params[j]? = some t → args[j]? = some v → Value.okWide Tryz.prog W .any base t v)
    (hW : DataW.Whole enc Tryz.prog Tryz.f7.params.toList Rows.paperSpoiltSpec.vars false W args.toList ds gs before) (hk : Rows.uptoSmall H (ds ++ gs) = true) (hL : laidMetH Tryz.prog Rows.paperSpoiltUptoRow.laid W) :
    Calls Tryz.prog 7 args W fun e W' => ∃ v, e = .returned v ∧ Rows.paperSpoiltSpec.post enc Tryz.prog Tryz.f7 false true false false W args v W' := by
  have hW' := hW
  obtain ⟨p, q, hA0, hV, rfl, hfz, hnd⟩ := hW
  have hA : DataW.TrodAll enc Tryz.prog W 0 (fun _ => true) true Tryz.f7.params.toList args.toList ds p := hA0
  rw [Tryz.params7] at hA hval
  obtain ⟨v0, vs0, d0, ds0, p0, q0, hargs0, rfl, rfl, h0, r0⟩ := trodAll_cons hA
  obtain ⟨v1, vs1, d1, ds1, p1, q1, hargs1, rfl, rfl, h1, r1⟩ := trodAll_cons r0
  obtain ⟨v2, vs2, d2, ds2, p2, q2, hargs2, rfl, rfl, h2, r2⟩ := trodAll_cons r1
  obtain ⟨v3, vs3, d3, ds3, p3, q3, hargs3, rfl, rfl, h3, r3⟩ := trodAll_cons r2
  obtain ⟨v4, vs4, d4, ds4, p4, q4, hargs4, rfl, rfl, h4, r4⟩ := trodAll_cons r3
  obtain ⟨v5, vs5, d5, ds5, p5, q5, hargs5, rfl, rfl, h5, r5⟩ := trodAll_cons r4
  obtain ⟨rfl, rfl, rfl⟩ := trodAll_nil r5
  subst hargs5 hargs4 hargs3 hargs2 hargs1
  obtain rfl : args = #[v0, v1, v2, v3, v4, v5] := by cases args; simp_all
  obtain ⟨rfl, rfl⟩ := trodVars_none hV
  obtain ⟨s5, rfl, rfl, rfl, hmax5⟩ := open_string Tryz.underlying9 (hval 5 9 v5 rfl rfl) h5
  obtain ⟨s4, rfl, rfl, rfl, hmax4⟩ := open_int Tryz.underlying3 (hval 4 3 v4 rfl rfl) h4
  obtain ⟨s3, rfl, rfl, rfl, hmax3⟩ := open_int Tryz.underlying3 (hval 3 3 v3 rfl rfl) h3
  obtain ⟨x0, xl, xc, rfl⟩ := okWide_slice Tryz.underlying56 (hval 2 56 v2 rfl rfl)
  have h2k := h2
  obtain ⟨fuel, hf⟩ := h2
  have h1k := h1
  obtain ⟨a0, a1, a2, a3, ay0, ay1, ay2, ay3, an, rfl, rfl, rfl, at0, at1, at2, at3⟩ := open_agg4 Tryz.underlying25 (by kernel_rfl) cellsPtr (hval 1 25 v1 rfl rfl) h1
  obtain ⟨ac0, ae0, rfl, aw0⟩ := DataW.trod_int Tryz.underlying3 at0
  obtain ⟨ac1, ae1, rfl, aw1⟩ := DataW.trod_int Tryz.underlying3 at1
  obtain ⟨ac2, ae2, rfl, aw2⟩ := DataW.trod_int Tryz.underlying3 at2
  obtain ⟨ac3, ae3, rfl, aw3⟩ := DataW.trod_int Tryz.underlying3 at3
  simp only [List.cons.injEq, and_true] at ae0 ae1 ae2 ae3
  subst ae0 ae1 ae2 ae3
  have h0k := h0
  obtain ⟨st, n1, n2, n3, n4, n5, n6, n7, rfl, rfl, hst, i1, i2, i3, i4, i5, i6, i7⟩ := open_meta (hval 0 23 v0 rfl rfl) h0
  clear hA0
  simp only [List.append_nil, List.nil_append] at hW' hk
  have hlt : ∀ x ∈ p2, x.block < W.heap.size := fun x hx => by simpa using hW'.lt x (by simp [hx])
  obtain ⟨fs, ao, b, o, cap, hv, k1, k2, k3, k4, k5, k6, k7⟩ := open_files hf hlt
  rw [hv] at hW' h2k ⊢
  have hkd := of_decide_eq_true hk
  simp only [Rows.uptoBulkAll, Rows.uptoBulk] at hkd
  have hz1 := size_data s5
  simp only at k5 k6 k7
  refine (spoiltLaw_any st n1 n2 n3 n4 n5 n6 n7 ac0 ac1 ac2 ac3 ao b o cap fs s3 s4 s5 W (by have := hst; simp only [maxLen] at this; omega) (fun i => ?_) (i64_of aw0) (i64_of aw1) (i64_of aw2) (i64_of aw3) k1 k2 k4 k3 (by omega) (fun c hc => by have := k6 c hc; omega) (by omega) (by omega) (tabs_of hL) (pow_of hL)).mono fun e W' ⟨he, hnx⟩ => ?_
  · match i with
    | 0 => exact ⟨by simp [mN], by simp [mN]⟩
    | 1 => exact i1
    | 2 => exact i2
    | 3 => exact i3
    | 4 => exact i4
    | 5 => exact i5
    | 6 => exact i6
    | 7 => exact i7
    | _ + 8 => exact ⟨by simp [mN], by simp [mN]⟩
  subst he
  refine ⟨_, rfl, _, _, _, [], p2, [], hW', trodAll_cons_mk (shut_bool Tryz.underlying4 _) trodAll_mk0, ?_, rfl, hnx.frame _, fun h => by cases h⟩
  have h2s := Below.trod laidOutP (by kernel_rfl) (of_decide_eq_true (by kernel_rfl)) h2k hnx hlt
  have h1s := Below.trod laidOutP (by kernel_rfl) (of_decide_eq_true (by kernel_rfl)) h1k hnx (fun x hx => by cases hx)
  have h0s := Below.trod laidOutP (by kernel_rfl) (of_decide_eq_true (by kernel_rfl)) h0k hnx (fun x hx => by cases hx)
  have := trodAll_cons_mk h0s (trodAll_cons_mk h1s (trodAll_cons_mk h2s (trodAll_cons_mk (shut_int Tryz.underlying3 hmax3) (trodAll_cons_mk (shut_int Tryz.underlying3 hmax4) (trodAll_cons_mk (shut_string Tryz.underlying9 hmax5) trodAll_mk0)))))
  simp only [List.append_nil, List.nil_append] at this
  exact this
set_option maxRecDepth 100000 in
theorem liftedUpto (os : Os) (started : os.Started) (H : Type) (enc : TypeId × Value → H) (F : Stop.Interp) :
    ReturnsInHanded {} Tryz.checked os 7 .any ((Rows.OpenSpec.upto Rows.paperSpoiltSpec).preRow enc Tryz.prog Tryz.f7 Rows.paperSpoiltUptoRow.domain false Rows.paperSpoiltUptoRow.laid) (((Rows.OpenSpec.upto Rows.paperSpoiltSpec).at F).post enc Tryz.prog Tryz.f7 false true false false) := by
  obtain ⟨places, hx⟩ := reads os enc
  refine returnsInHanded_of_row (C := Tryz.checked) (s := Rows.OpenSpec.upto Rows.paperSpoiltSpec) ownK started (by kernel_rfl) Tryz.func7
    (witness_row_at (enc := enc) (C := Tryz.checked) false { World.holding Tryz.prog os ⟨#[], #[], []⟩ with heap := laidHeap (World.holding Tryz.prog os ⟨#[], #[], []⟩).heap } #[.agg #[.string .empty, .int .i64 0, .int .i64 0, .int .i64 0, .int .i64 0, .int .i64 0, .int .i64 0, .int .i64 0], .agg #[.int .i64 0, .int .i64 0, .int .i64 0, .int .i64 0], .slice none 0 0, .int .i64 0, .int .i64 0, .string .empty] rfl (by kernel_rfl) (by kernel_rfl) (by kernel_rfl)
      (OpenSpec.preRow_of_cond 8 hx (by kernel_rfl) (fun k hk => by cases hk; kernel_rfl) (by kernel_rfl) (laid_met os))) ?_
  intro W base args ds gs before hval hW _ hcond _ hL _ _
  exact contract H enc W base args ds gs before hval hW (hcond _ rfl) hL
theorem saidUpto : Rows.PaperSpoiltUptoSaid :=
  OpenClaim.holds_of_cond 7 Tryz.f7 rfl rfl rfl rfl rfl rfl rfl ⟨rfl, rfl, rfl, rfl, rfl⟩ rfl rfl rfl rfl rfl (by kernel_rfl) Tryz.func7 (by kernel_rfl)
    (of_decide_eq_true (by kernel_rfl)) (by unfold Func.isWrapper; first | (rw [if_pos (by decide +kernel)]; kernel_rfl) | (rw [if_neg (by decide +kernel)]; exact ⟨rfl, rfl⟩))
    (fun os started H enc _ F => by rw [OpenClaim.pre_eq_preRow]; exact liftedUpto os started H enc F)
theorem plain (f : FuncId) (fn : Func) (hf : Tryz.pinned.checked.prog.funcNamed Rows.paperSpoiltUptoRow.func = some f) (hfn : Tryz.pinned.checked.prog.funcs[f]? = some fn) :
    false = Tryz.pinned.checked.prog.looks [] ∧ ∀ (j : Nat) t, fn.params[j]? = some t → Tryz.pinned.checked.prog.wantsStandIn t = false := by
  obtain rfl : f = 7 := Option.some.inj ((show Tryz.prog.funcNamed Rows.paperSpoiltUptoRow.func = some 7 by kernel_rfl).symm.trans hf) |>.symm
  obtain rfl : fn = Tryz.f7 := (Option.some.inj (Tryz.func7.symm.trans hfn)).symm
  refine ⟨by kernel_rfl, fun j t ht => ?_⟩
  rw [Tryz.params7] at ht
  have hm := Array.mem_of_getElem? ht
  simp at hm
  rcases hm with rfl | rfl | rfl | rfl | rfl
  · exact (show Tryz.prog.wantsStandIn 23 = false by kernel_rfl)
  · exact (show Tryz.prog.wantsStandIn 25 = false by kernel_rfl)
  · exact (show Tryz.prog.wantsStandIn 56 = false by kernel_rfl)
  · exact (show Tryz.prog.wantsStandIn 3 = false by kernel_rfl)
  · exact (show Tryz.prog.wantsStandIn 9 = false by kernel_rfl)
theorem card : Rows.PaperSpoiltUptoCardSaid :=
  Claim7.holds_tied_plain_at .later [] _ _ _ _ saidUpto (fun _ h => by cases h) (by kernel_rfl) (fun _ h => by cases h) paperSpoiltUpto_row_tie rfl ⟨rfl, rfl⟩ (by kernel_rfl) rfl plain (by kernel_rfl)
end Go.Proofs.YtfpalfpfijcpbaaGreatDoor
