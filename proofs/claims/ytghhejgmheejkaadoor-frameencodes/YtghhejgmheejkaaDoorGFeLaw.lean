import Derived.Test.YtghhejgmheejkaaDoorFeRef5
import Derived.Test.YtghhejgmheejkaaDoorRows
import Derived.Lib.LaidTab
import Derived.Lib.LaidU8
import Derived.ProofKit
import Derived.OpenShut
import Derived.SizedLaws
import Derived.Deep.SlicePairs
import Derived.Lib.SmallJoins
namespace Go.Proofs.YtghhejgmheejkaaDoor
open Go.RowKit
/-- Encode, of any message -/
theorem encode_any (m : MM) (w : World) (hT : TabF w) (h6 : 6 ≤ w.heap.size) (hT4 : Tab4 5 w) :
    Calls Tryd.prog 8 #[.agg (msgV m)] w fun e w' => e = .returned (.tuple #[.string (encS m), .int .i64 (encE m)]) ∧ Below w.heap.size w w' := by
  by_cases h : 1 ≤ m.kind ∧ m.kind ≤ 16
  · obtain ⟨k, hk⟩ : ∃ k : Nat, m.kind = (k : Int) := ⟨_, (Int.toNat_of_nonneg (by omega)).symm⟩
    exact encode_fit m k (by omega) (by omega) hk w hT h6 hT4
  · exact encode_kind m w h
set_option maxRecDepth 100000 in
theorem num5_any (n : Int) (w : World) : Calls Tryd.prog 10 #[.int .i64 n] w fun e w' => e = .returned (.int .i64 n) ∧ w = w' := by
  go_enter Tryd.func10, Tryd.ntmps10
  go_wp2
  go_ret
  exact ⟨rfl, rfl⟩
set_option maxHeartbeats 4000000 in
set_option maxRecDepth 100000 in
/-- the law FrameEncodes -/
theorem frameEncodes_any (m : MM) (w : World) (hT : TabF w) (hR : TabR w) (h6 : 6 ≤ w.heap.size) (hT4 : Tab4 5 w) :
    Calls Tryd.prog 6 #[.agg (msgV m)] w fun e w' => e = .returned (.bool true) ∧ Below w.heap.size w w' := by
  obtain ⟨W0, hW0⟩ : ∃ W0, W0 = w.alloc (.cells (msgV m) 26) := ⟨_, rfl⟩
  have b0 : Below w.heap.size w W0 := by rw [hW0]; exact (Below.refl _ w).alloc (Nat.le_refl _) _
  have s0 : w.heap.size < W0.heap.size := by rw [hW0]; simp
  have KO : Hid (∀ w', Below W0.heap.size W0 w' → w'.heap[w.heap.size]? = some (.cells (msgV m) 26)) := fun w' hb => (hb.block _ s0).trans (by rw [hW0]; exact heap_last w _)
  have P := hide (encode_any m W0 (hT.below b0) (by omega) (fun j hj => (b0.cell (World.block_lt_of_cell? w _ (hT4 j hj))).trans (hT4 j hj)))
  have Q : Hid (∀ w', Below w.heap.size w w' → Calls Tryd.prog 14 #[.agg (msgV m)] w' fun e w'' => e = .returned (.tuple #[.string (encS m), .int .i64 (encE m)]) ∧ Below w'.heap.size w' w'') := fun w' hb => rencode_any m w' (hR.below hb)
  have hO0 := KO.out _ (Below.refl _ _)
  have B0 := hide b0
  generalize encS m = S at *
  generalize encE m = E at *
  clear b0 hT hR hT4
  go_enter Tryd.func6, Tryd.ntmps6
  go_upto_region 1 with fail
  rw [← hW0]
  clear hW0
  go_wp2_with (refine wpList_loadMsg rfl (.tmp 1) rfl m w.heap.size rfl hO0 ?_)
  refine Calls.mono P.out ?_
  rintro e w1 ⟨rfl, b1⟩
  have B1 := hide (B0.out.trans (b1.mono B0.out.size))
  have hO1 := KO.out _ b1
  clear b1 hO0 P
  go_wp2_with (refine wpList_loadMsg rfl (.tmp 1) rfl m w.heap.size rfl hO1 ?_)
  refine Calls.mono (Q.out _ B1.out) ?_
  rintro e w2 ⟨rfl, b2⟩
  have B2 := hide (B1.out.trans (b2.mono B1.out.size))
  clear b2 Q hO1
  go_wp2_with (go_at_call 10; refine Calls.mono (num5_any _ _) ?_; rintro e wn ⟨rfl, rfl⟩)
  go_ret
  exact ⟨rfl, B2.out⟩
end Go.Proofs.YtghhejgmheejkaaDoor
namespace Go.Proofs.YtghhejgmheejkaaDoor
open Go.ChangeShapes Go.WideShapes Go.ChangeAt Go.RowKit Go.Deep Go.Lib
theorem cellsI : Tryd.prog.cellsOf 3 = 1 := by kernel_rfl
theorem cellsS9 : Tryd.prog.cellsOf 9 = 1 := by kernel_rfl
theorem cellsB4 : Tryd.prog.cellsOf 4 = 1 := by kernel_rfl
theorem cellsFld : Tryd.prog.cellsOf 62 = 1 := by kernel_rfl
theorem cellsShp : Tryd.prog.cellsOf 65 = 3 := by kernel_rfl
theorem cellsShps : Tryd.prog.cellsOf 66 = 10 * 3 := by kernel_rfl
theorem cellsFlds : Tryd.prog.cellsOf 54 = 17 * 1 := by kernel_rfl
theorem cellsSl : Tryd.prog.cellsOf 67 = 1 := by kernel_rfl
theorem cellsSls : Tryd.prog.cellsOf 68 = 17 * 1 := by kernel_rfl
theorem cellsHds : Tryd.prog.cellsOf 63 = 3 := by kernel_rfl
theorem cellsMsg : Tryd.prog.cellsOf 26 = 11 := by kernel_rfl
theorem cellsErr : Tryd.prog.cellsOf 22 = 1 := by kernel_rfl
theorem arr_at {t e : TypeId} {n s : Nat} {W : World} {sp : Nat → Bool} {fuel : Nat} {cs : List Value} {ds : List (DataW Unit)} {p : List MemPlace} (ht : Tryd.prog.underlying t = some (.array n e)) (ce : Tryd.prog.cellsOf e = s) (ct : Tryd.prog.cellsOf t = n * s) (h : DataW.trod (fun _ => ()) Tryd.prog W 0 sp false fuel t cs = some (.agg ds, p)) : ∃ f2, ∀ i, i < n → ∃ d q, ds[i]? = some d ∧ DataW.trod (fun _ => ()) Tryd.prog W 0 sp false f2 e ((cs.drop (i * s)).take s) = some (d, q) := by
  cases fuel with
  | zero => simp [DataW.trod] at h
  | succ fuel =>
    simp only [DataW.trod, ht, ce, ct] at h
    split at h
    · obtain ⟨xs, hm, hx⟩ := Option.map_eq_some_iff.1 h
      have hxs : xs.map (·.1) = ds := by
        have := congrArg Prod.fst hx
        simpa using this
      refine ⟨fuel, fun i hi => ?_⟩
      obtain ⟨b, hb, hf⟩ := mapM_at hm i i (by simp [hi])
      exact ⟨b.1, b.2, by rw [← hxs]; simp [hb], hf⟩
    · cases h
theorem one_cell {cs : List Value} {j : Nat} {v : Value} (h : (cs.drop (j * 1)).take 1 = [v]) : cs[j]? = some v := by
  have h2 : ((cs.drop (j * 1)).take 1)[0]? = some v := by rw [h]; rfl
  rw [List.getElem?_take_of_lt (by omega), List.getElem?_drop] at h2
  simpa using h2
theorem lit_str {H : Type} {a b : List UInt8} (h : (DataW.lit (.string a) : DataW H) = .lit (.string b)) : a = b := by injection h with h; injection h
theorem lit_int {H : Type} {k l : IntKind} {a b : Int} (h : (DataW.lit (.int k a) : DataW H) = .lit (.int l b)) : a = b := by injection h with h; injection h
theorem lit_bool {H : Type} {a b : Bool} (h : (DataW.lit (.bool a) : DataW H) = .lit (.bool b)) : a = b := by injection h with h; injection h
/-- what is laid, as lists -/
def fieldsD : List (DataW Unit) := (List.range 17).map fun k => .lit (.string (letL k))
def shapesD : List (DataW Unit) := (List.range 10).map fun i => .agg [.lit (.int .i64 (widF i : Int)), .lit (.int .i64 (mostF i : Int)), .lit (.bool (isTx i))]
def bodiesD : List (DataW Unit) := .nil :: (List.range 16).map fun k => .slice ((bodyF (k + 1)).map fun i : Nat => .lit (.int .i64 (i : Int))) []
theorem fields_of {W : World} {name : String} (h : VarReads Tryd.prog W name (.agg fieldsD)) (hg : Tryd.prog.globalNamed name = some 4) (hty : (Tryd.prog.globals[4]?).map (·.type) = some 54) : TabR W := by
  obtain ⟨g', t', cs, fuel, p, hg', ht', hvar, hdd⟩ := h
  obtain rfl := Option.some.inj (hg.symm.trans hg')
  obtain rfl := Option.some.inj (hty.symm.trans ht')
  obtain ⟨f2, ha⟩ := arr_at Tryd.underlying54 cellsS9 cellsFlds hdd
  intro k hk
  obtain ⟨d, q, hd, ht⟩ := ha k (by omega)
  have e : fieldsD[k]? = some (.lit (.string (letL k))) := by unfold fieldsD; rw [List.getElem?_map, List.getElem?_range (by omega)]; rfl
  rw [e] at hd
  obtain rfl := Option.some.inj hd
  obtain ⟨s, e0, e1, _⟩ := DataW.trod_string Tryd.underlying9 ht
  have c := one_cell e0
  rw [World.var?_cell hg hvar k, ← Array.getElem?_toList, c]
  simp only [Prod.mk.injEq] at e1
  have := lit_str e1.1
  rw [this, strOf_toList]
theorem list3 {α : Type} {l : List α} (h : l.length = 3) : ∃ a0 a1 a2, l = [a0, a1, a2] := by
  match l, h with
  | [a0, a1, a2], _ => exact ⟨a0, a1, a2, rfl⟩
theorem shapes_of {W : World} {name : String} (h : VarReads Tryd.prog W name (.agg shapesD)) (hg : Tryd.prog.globalNamed name = some 2) (hty : (Tryd.prog.globals[2]?).map (·.type) = some 66) :
    ∀ i, i < 10 → W.cell? ⟨2, i * 3, none⟩ = some (.int .i64 (widF i : Int)) ∧ W.cell? ⟨2, i * 3 + 1, none⟩ = some (.int .i64 (mostF i : Int)) ∧ W.cell? ⟨2, i * 3 + 2, none⟩ = some (.bool (isTx i)) := by
  obtain ⟨g', t', cs, fuel, p, hg', ht', hvar, hdd⟩ := h
  obtain rfl := Option.some.inj (hg.symm.trans hg')
  obtain rfl := Option.some.inj (hty.symm.trans ht')
  obtain ⟨f2, ha⟩ := arr_at Tryd.underlying66 cellsShp cellsShps hdd
  intro i hi
  obtain ⟨d, q, hd, ht⟩ := ha i hi
  have e : shapesD[i]? = some (.agg [.lit (.int .i64 (widF i : Int)), .lit (.int .i64 (mostF i : Int)), .lit (.bool (isTx i))]) := by unfold shapesD; rw [List.getElem?_map, List.getElem?_range hi]; rfl
  rw [e] at hd
  obtain rfl := Option.some.inj hd
  obtain ⟨xs, n, _, hx, hlen, hxl, hq⟩ := DataW.trod_struct Tryd.underlying65 ht
  obtain ⟨y0, y1, y2, rfl⟩ := list3 hxl
  rw [cellsShp] at hlen
  obtain ⟨v0, v1, v2, hv⟩ := list3 hlen
  have g0 := hq 0 _ rfl
  have g1 := hq 1 _ rfl
  have g2 := hq 2 _ rfl
  rw [hv] at g0 g1 g2
  simp [cellsI, cellsB4] at g0 g1 g2
  obtain ⟨n0, f0, z0, _⟩ := DataW.trod_int Tryd.underlying3 g0
  obtain ⟨n1, f1', z1, _⟩ := DataW.trod_int Tryd.underlying3 g1
  obtain ⟨b2, f2', z2⟩ := DataW.trod_bool Tryd.underlying4 g2
  simp only [List.cons.injEq, and_true] at f0 f1' f2'
  subst f0 f1' f2' z0 z1 z2
  simp only [Prod.mk.injEq, List.map_cons, List.map_nil, DataW.agg.injEq, List.cons.injEq, and_true] at hx
  obtain ⟨⟨e0, e1, e2⟩, _⟩ := hx
  have cell : ∀ j v, [Value.int .i64 n0, Value.int .i64 n1, Value.bool b2][j]? = some v → W.cell? ⟨2, i * 3 + j, none⟩ = some v := fun j v hj => by
    have hj3 : j < 3 := (List.getElem?_eq_some_iff.1 hj).1
    rw [World.var?_cell hg hvar (i * 3 + j), ← Array.getElem?_toList]
    rw [← hv, List.getElem?_take_of_lt hj3, List.getElem?_drop] at hj
    exact hj
  exact ⟨by rw [lit_int e0]; exact cell 0 _ rfl, by rw [lit_int e1]; exact cell 1 _ rfl, by rw [lit_bool e2]; exact cell 2 _ rfl⟩
theorem bodies_of {W : World} {name : String} (h : VarReads Tryd.prog W name (.agg bodiesD)) (hg : Tryd.prog.globalNamed name = some 3) (hty : (Tryd.prog.globals[3]?).map (·.type) = some 68) :
    ∀ k, 1 ≤ k → k ≤ 16 → ∃ (ao : Option Addr) (b o cap : Nat), W.cell? ⟨3, k, none⟩ = some (.slice ao (bodyF k).length cap) ∧ (0 < (bodyF k).length → ao = some ⟨b, o, none⟩) ∧ ∀ j (h : j < (bodyF k).length), W.cell? ⟨b, o + j, none⟩ = some (.int .i64 ((bodyF k)[j] : Int)) := by
  obtain ⟨g', t', cs, fuel, p, hg', ht', hvar, hdd⟩ := h
  obtain rfl := Option.some.inj (hg.symm.trans hg')
  obtain rfl := Option.some.inj (hty.symm.trans ht')
  obtain ⟨f2, ha⟩ := arr_at Tryd.underlying68 cellsSl cellsSls hdd
  intro k h1 h16
  obtain ⟨d, q, hd, ht⟩ := ha k (by omega)
  have e : bodiesD[k]? = some (.slice ((bodyF k).map fun i : Nat => .lit (.int .i64 (i : Int))) []) := by
    obtain ⟨k, rfl⟩ : ∃ k', k = k' + 1 := ⟨k - 1, by omega⟩
    unfold bodiesD; rw [List.getElem?_cons_succ, List.getElem?_map, List.getElem?_range (by omega)]; rfl
  rw [e] at hd
  obtain rfl := Option.some.inj hd
  rcases open_slice Tryd.underlying67 ht with ⟨_, hx⟩ | ⟨a, len, cap, mm, n, D, Pl, hcs, _, hl, hm, hmm, hx, hcell⟩
  · simp at hx
  · simp only [Prod.mk.injEq, DataW.slice.injEq] at hx
    have hln : (bodyF k).length = len := by have := congrArg List.length hx.1.1; simpa using this
    subst hln
    have c := one_cell hcs
    have hmle : (bodyF k).length ≤ mm := by rw [hmm]; split <;> omega
    obtain ⟨ab, ao, asp⟩ := a
    have each : ∀ j (hj : j < (bodyF k).length), W.cell? ((⟨ab, ao, asp⟩ : Addr).add j) = some (.int .i64 ((bodyF k)[j] : Int)) := fun j hj => by
      obtain ⟨cs', x1, x2⟩ := hcell j (by omega)
      rw [cellsFld, Nat.mul_one] at x1
      obtain ⟨_, hlen, hce⟩ := World.cells?_some x1
      have dj : D j = .lit (.int .i64 ((bodyF k)[j] : Int)) := by
        have := congrArg (fun l => l[j]?) hx.1.1
        simp only [List.getElem?_map, List.getElem?_range hj, List.getElem?_eq_getElem hj, Option.map_some, Option.some.injEq] at this
        exact this.symm
      rw [dj] at x2
      obtain ⟨z, f0, z0, _⟩ := DataW.trod_int Tryd.underlying62 x2
      subst f0
      simp only [Prod.mk.injEq] at z0
      have hz := lit_int z0.1
      have := hce 0 (by omega)
      rw [hz]
      simpa [Addr.add] using this
    have hsp : 0 < (bodyF k).length → asp = none := fun h => by simpa [Addr.add] using World.cell?_spot (each 0 h)
    refine ⟨some ⟨ab, ao, asp⟩, ab, ao, cap, by rw [World.var?_cell hg hvar k, ← Array.getElem?_toList, c], fun h => by rw [hsp h], fun j hj => ?_⟩
    have := each j hj
    rw [hsp (by omega), add_plain] at this
    exact this
theorem list11 {α : Type} {l : List α} (h : l.length = 11) : ∃ a0 a1 a2 a3 a4 a5 a6 a7 a8 a9 a10, l = [a0, a1, a2, a3, a4, a5, a6, a7, a8, a9, a10] := by
  match l, h with
  | [a0, a1, a2, a3, a4, a5, a6, a7, a8, a9, a10], _ => exact ⟨a0, a1, a2, a3, a4, a5, a6, a7, a8, a9, a10, rfl⟩
theorem array11 {α : Type} {l : Array α} (h : l.size = 11) : ∃ a0 a1 a2 a3 a4 a5 a6 a7 a8 a9 a10, l = #[a0, a1, a2, a3, a4, a5, a6, a7, a8, a9, a10] := by
  obtain ⟨l⟩ := l
  obtain ⟨a0, a1, a2, a3, a4, a5, a6, a7, a8, a9, a10, h⟩ := list11 (l := l) (by simpa using h)
  exact ⟨a0, a1, a2, a3, a4, a5, a6, a7, a8, a9, a10, by rw [h]⟩
set_option maxRecDepth 100000 in
set_option maxHeartbeats 1000000 in
/-- a message that is handed in -/
theorem open_msg {H : Type} {enc : TypeId × Value → H} {w : World} {r : Reach} {b0 base : Nat} {spare : Nat → Bool} {held : Bool} {v : Value} {d : DataW H} {p : List MemPlace} (hv : Value.okWide Tryd.prog w r b0 26 v) (h : DataW.Trod enc Tryd.prog w base spare held 26 v d p) :
    ∃ m : MM, v = .agg (msgV m) ∧ p = [] := by
  obtain ⟨cs, rfl, hsz⟩ := okWide_struct Tryd.underlying26 hv
  obtain ⟨a0, a1, a2, a3, a4, a5, a6, a7, a8, a9, a10, rfl⟩ := array11 (hsz.trans cellsMsg)
  obtain ⟨fuel, hf⟩ := h
  obtain ⟨xs, n, _, hx, _, hxl, hq⟩ := DataW.trod_struct Tryd.underlying26 hf
  obtain ⟨y0, y1, y2, y3, y4, y5, y6, y7, y8, y9, y10, rfl⟩ := list11 hxl
  have g0 := hq 0 _ rfl
  have g1 := hq 1 _ rfl
  have g2 := hq 2 _ rfl
  have g3 := hq 3 _ rfl
  have g4 := hq 4 _ rfl
  have g5 := hq 5 _ rfl
  have g6 := hq 6 _ rfl
  have g7 := hq 7 _ rfl
  have g8 := hq 8 _ rfl
  have g9 := hq 9 _ rfl
  have g10 := hq 10 _ rfl
  simp [Value.cells, cellsI, cellsS9, cellsErr] at g0 g1 g2 g3 g4 g5 g6 g7 g8 g9 g10
  obtain ⟨n0, f0, z0, w0⟩ := DataW.trod_int Tryd.underlying3 g0
  obtain ⟨n1, f1, z1, w1⟩ := DataW.trod_int Tryd.underlying3 g1
  obtain ⟨n2, f2, z2, w2⟩ := DataW.trod_int Tryd.underlying3 g2
  obtain ⟨n3, f3, z3, w3⟩ := DataW.trod_int Tryd.underlying3 g3
  obtain ⟨n4, f4, z4, w4⟩ := DataW.trod_int Tryd.underlying3 g4
  obtain ⟨n5, f5, z5, w5⟩ := DataW.trod_int Tryd.underlying3 g5
  obtain ⟨n6, f6, z6, w6⟩ := DataW.trod_int Tryd.underlying3 g6
  obtain ⟨n7, f7, z7, w7⟩ := DataW.trod_int Tryd.underlying3 g7
  obtain ⟨n8, f8, z8, w8⟩ := DataW.trod_int Tryd.underlying22 g8
  obtain ⟨s9, f9, z9, w9⟩ := DataW.trod_string Tryd.underlying9 g9
  obtain ⟨s10, f10, z10, w10⟩ := DataW.trod_string Tryd.underlying9 g10
  simp only [List.cons.injEq, and_true] at f0 f1 f2 f3 f4 f5 f6 f7 f8 f9 f10
  subst f0 f1 f2 f3 f4 f5 f6 f7 f8 f9 f10
  simp only [Prod.mk.injEq] at hx
  refine ⟨⟨n0, n1, n2, n3, n4, n5, n6, n7, n8, s9, s10⟩, rfl, ?_⟩
  rw [hx.2, z0, z1, z2, z3, z4, z5, z6, z7, z8, z9, z10]; rfl
end Go.Proofs.YtghhejgmheejkaaDoor
