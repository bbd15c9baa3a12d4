import Derived.Test.YtanlnelfbfjelaaDoorGDgPlain
import Derived.Test.YtanlnelfbfjelaaDoorGGmWith
import Derived.Maps.OwnSet
import Derived.Shelf.Strconv.Clone
import Derived.Shelf.Strings.Split
import Derived.Test.YtanlnelfbfjelaaDoorGGcShelf
import Derived.Test.YtanlnelfbfjelaaDoorProg
import Derived.Test.YtanlnelfbfjelaaDoorGGcFit
namespace Go.Proofs.YtanlnelfbfjelaaDoor
open Go.RowKit Go.Maps
def kL (i : Nat) : Lit := .string (swd i)
theorem kL_ne {i j : Nat} (hi : i < 21) (hj : j < 21) (h : j ≠ i) : kL j ≠ kL i := fun e => h (swd_inj hj hi (by unfold kL at e; exact Lit.string.inj e))
/-- the numbers that are said, in the map -/
structure MpIs (D : DataW Unit) (x : Nat → Int) : Prop where
  hs : ∀ i, i < 21 → Maps.has D (kL i) = decide (0 ≤ x i)
  get : ∀ i, i < 21 → 0 ≤ x i → D.atKey (kL i) (.lit (.int .i64 0)) = .lit (.int .i64 (x i))
theorem mpIs_none : MpIs (.map []) (fun _ => -1) := ⟨fun _ _ => rfl, fun _ _ h => absurd h (by omega)⟩
theorem MpIs.put {D : DataW Unit} {x : Nat → Int} (h : MpIs D x) (hD : IsMap D) {i : Nat} (hi : i < 21) {v : Int} (hv : 0 ≤ v) : MpIs (D.put (kL i) (.lit (.int .i64 v))) (put1 x i v) := by
  have hk : WideAt.IsKeyLit (kL i) := trivial
  refine ⟨fun j hj => ?_, fun j hj hx => ?_⟩
  · by_cases e : j = i
    · subst e
      rw [has_put_same hD hk]
      unfold put1
      rw [if_pos rfl, decide_eq_true hv]
    · rw [has_put_other (kL_ne hi hj e), h.hs j hj]
      unfold put1
      rw [if_neg e]
  · by_cases e : j = i
    · subst e
      rw [atKey_put_same hD hk]
      unfold put1
      rw [if_pos rfl]
    · have hx' : 0 ≤ x j := by unfold put1 at hx; rw [if_neg e] at hx; exact hx
      rw [atKey_put_other (kL_ne hi hj e), h.get j hj hx']
      unfold put1
      rw [if_neg e]
theorem set_other (w : World) (S k : Nat) (v : Value) {b : Nat} (h : b ≠ S) : (w.setCell ⟨S, k, none⟩ v).heap[b]? = w.heap[b]? := by
  simp only [World.setCell, Array.getElem?_modify]
  rw [if_neg (fun e => h e.symm)]
theorem set_size (w : World) (S k : Nat) (v : Value) : (w.setCell ⟨S, k, none⟩ v).heap.size = w.heap.size := by simp [World.setCell]
/-- all that lies below base is as it was, but two blocks; all below N -/
structure Kp (N base S M : Nat) (w w' : World) : Prop where
  lo : Below N w w'
  mid : ∀ b, b < base → b ≠ S → b ≠ M → w'.heap[b]? = w.heap[b]?
theorem Kp.refl (N base S M : Nat) (w : World) : Kp N base S M w w := ⟨Below.refl _ _, fun _ _ _ _ => rfl⟩
theorem Kp.trans {N base S M : Nat} {w w' w'' : World} (h : Kp N base S M w w') (k : Kp N base S M w' w'') : Kp N base S M w w'' :=
  ⟨h.lo.trans k.lo, fun b h1 h2 h3 => (k.mid b h1 h2 h3).trans (h.mid b h1 h2 h3)⟩
theorem Kp.of {N base S M : Nat} {w w' : World} (h : Below w.heap.size w w') (hN : N ≤ w.heap.size) (hb : base ≤ w.heap.size) : Kp N base S M w w' :=
  ⟨h.mono hN, fun b h1 _ _ => h.block b (by omega)⟩
theorem Kp.set {N base S M : Nat} {w w' : World} (h : Kp N base S M w w') (hN : N ≤ S) (k : Nat) (v : Value) : Kp N base S M w (w'.setCell ⟨S, k, none⟩ v) := by
  refine ⟨⟨?_, ?_, ?_, ?_, fun b hb => ?_⟩, fun b h1 h2 h3 => ?_⟩
  · exact h.lo.os
  · exact h.lo.tape
  · exact h.lo.output
  · rw [set_size]; exact h.lo.size
  · rw [set_other _ _ _ _ (by omega)]; exact h.lo.block b hb
  · rw [set_other _ _ _ _ h2]; exact h.mid b h1 h2 h3
theorem Kp.grown {N base S M : Nat} {w w' w'' : World} {row : Option Nat} (h : Kp N base S M w w') (g : w'.grownBy w'' row) (hr : ∀ b, row = some b → N ≤ b ∧ (base ≤ b ∨ b = S ∨ b = M)) (hN : N ≤ w'.heap.size) (hb : base ≤ w'.heap.size) : Kp N base S M w w'' := by
  refine ⟨⟨g.os.trans h.lo.os, g.tape.trans h.lo.tape, g.output.trans h.lo.output, Nat.le_trans h.lo.size g.size, fun b h1 => ?_⟩, fun b h1 h2 h3 => ?_⟩
  · rw [g.block b (by omega) (fun e => by have := hr b e.symm; omega)]; exact h.lo.block b h1
  · rw [g.block b (by omega) (fun e => by have := hr b e.symm; omega)]; exact h.mid b h1 h2 h3
/-- a said, as it lies there -/
structure SaAt (w : World) (S M base n : Nat) (s : PS) (vl : Value) (zs : List (Int × Value)) : Prop where
  c : w.heap[S]? = some (.cells #[.string (strOf s.st), .map (some M), vl] 47)
  tw : Tw base w s.ns vl zs
  zl : zs.length = s.ns.length
  mp : ∃ D : DataW Unit, w.ownsMap Tryd.prog 9 (plainElem Tryd.prog 3) M n D ∧ MpIs D s.x
  lt : S < base ∧ M < base ∧ S ≠ M ∧ base ≤ w.heap.size
  nl : s.ns.length ≤ n
  pl : ∀ d ∈ s.ns, d.ps.length ≤ 70000
  sl : s.st.length ≤ 70000
  xl : ∀ i, i < 21 → s.x i < 10000000000
theorem SaAt.c0 {w : World} {S M base n : Nat} {s : PS} {vl : Value} {zs : List (Int × Value)} (h : SaAt w S M base n s vl zs) : w.cell? ⟨S, 0, none⟩ = some (.string (strOf s.st)) := by unfold World.cell?; rw [h.c]; rfl
theorem SaAt.c1 {w : World} {S M base n : Nat} {s : PS} {vl : Value} {zs : List (Int × Value)} (h : SaAt w S M base n s vl zs) : w.cell? ⟨S, 1, none⟩ = some (.map (some M)) := by unfold World.cell?; rw [h.c]; rfl
theorem SaAt.c2 {w : World} {S M base n : Nat} {s : PS} {vl : Value} {zs : List (Int × Value)} (h : SaAt w S M base n s vl zs) : w.cell? ⟨S, 2, none⟩ = some vl := by unfold World.cell?; rw [h.c]; rfl
theorem SaAt.fz {w : World} {S M base n : Nat} {s : PS} {vl : Value} {zs : List (Int × Value)} (h : SaAt w S M base n s vl zs) (k : Nat) : w.frozen? ⟨S, k, none⟩ = false := by unfold World.frozen?; rw [h.c]; rfl
/-- whatever keeps all that is there keeps a said -/
theorem SaAt.keep {w w' : World} {S M base n : Nat} {s : PS} {vl : Value} {zs : List (Int × Value)} (h : SaAt w S M base n s vl zs) (hb : Below w.heap.size w w') : SaAt w' S M base n s vl zs := by
  obtain ⟨D, hD, hx⟩ := h.mp
  have hg : w.grownBy w' none := ⟨hb.os, hb.tape, hb.output, hb.size, fun i hi _ => hb.block i hi⟩
  have := hb.size
  exact ⟨(hb.block S (blk_lt h.c)).trans h.c, h.tw.keep hb, h.zl, ⟨D, hD.kept hg (by simp), hx⟩, ⟨h.lt.1, h.lt.2.1, h.lt.2.2.1, by have := h.lt.2.2.2; omega⟩, h.nl, h.pl, h.sl, h.xl⟩
theorem SaAt.more {w : World} {S M base n m : Nat} {s : PS} {vl : Value} {zs : List (Int × Value)} (h : SaAt w S M base n s vl zs) (hm : n ≤ m) : SaAt w S M base m s vl zs := by
  obtain ⟨D, hD, hx⟩ := h.mp
  exact ⟨h.c, h.tw, h.zl, ⟨D, hD.mono hm, hx⟩, h.lt, by have := h.nl; omega, h.pl, h.sl, h.xl⟩
theorem own_lowr {w : World} {b1 b2 n sz : Nat} {t : TypeId} {v : Value} {xs : List Value} (h : w.ownsRow b1 t sz v n xs) (hb : b2 ≤ b1) : w.ownsRow b2 t sz v n xs := by
  refine ⟨h.1, h.2.imp id ?_⟩
  rintro ⟨g, cap, cur, h1, h2, h3⟩
  exact ⟨g, cap, cur, h1, by omega, h3⟩
/-- another block's cell is written -/
theorem own_set {w : World} {b n sz : Nat} {t : TypeId} {v : Value} {xs : List Value} (h : w.ownsRow b t sz v n xs) {S k : Nat} (hS : S < b) (u : Value) : (w.setCell ⟨S, k, none⟩ u).ownsRow b t sz v n xs :=
  own_keep h fun g hg => by
    have := own_lt h hg
    rw [set_other _ _ _ _ (by omega)]
theorem Tw.set {base : Nat} {W : World} {ns : List ND} {vl : Value} {zs : List (Int × Value)} (h : Tw base W ns vl zs) {S k : Nat} (hS : S < base) (u : Value) : Tw base (W.setCell ⟨S, k, none⟩ u) ns vl zs :=
  ⟨own_set h.row hS u, h.z, fun q hq hq' => own_set (h.p q hq hq') hS u⟩
/-- words, as they lie there -/
structure WsAt (w : World) (ao : Option Addr) (b o : Nat) (L : List (List UInt8)) : Prop where
  at0 : 0 < L.length → ao = some ⟨b, o, none⟩
  lt : 0 < L.length → b < w.heap.size
  c : ∀ (q : Nat) (h : q < L.length), w.cell? ⟨b, o + q, none⟩ = some (.string (strOf L[q]))
theorem WsAt.below {w w' : World} {ao : Option Addr} {b o : Nat} {L : List (List UInt8)} (h : WsAt w ao b o L) (hb : Below w.heap.size w w') : WsAt w' ao b o L :=
  ⟨h.at0, fun q => by have := h.lt q; have := hb.size; omega, fun q hq => (hb.cell (h.lt (by omega))).trans (h.c q hq)⟩
theorem WsAt.at {w : World} {ao : Option Addr} {b : Nat} {L : List (List UInt8)} (h : WsAt w ao b 0 L) (i : Nat) (hi : i < L.length) : w.cell? ⟨b, i, none⟩ = some (.string (strOf (wAt L i))) := by
  have := h.c i hi
  rw [Nat.zero_add] at this
  rw [this]
  unfold wAt
  rw [List.getElem?_eq_getElem hi]
  rfl
theorem WsAt.drop {w : World} {ao : Option Addr} {b : Nat} {L : List (List UInt8)} (h : WsAt w ao b 0 L) (k : Nat) : WsAt w (some ⟨b, k, none⟩) b k (L.drop k) :=
  ⟨fun _ => rfl, fun q => h.lt (by simp at q; omega), fun q hq => by
    have hq' : k + q < L.length := by simp at hq; omega
    have := h.c (k + q) hq'
    rw [Nat.zero_add] at this
    rw [this, List.getElem_drop]⟩
theorem wsAt_new (w : World) (L : List (List UInt8)) : WsAt (w.alloc (.cells (L.map fun l => Value.string (strOf l)).toArray 9)) (some ⟨w.heap.size, 0, none⟩) w.heap.size 0 L :=
  ⟨fun _ => rfl, fun _ => by simp, fun q hq => by
    unfold World.cell?
    rw [heap_last]
    simp [hq]⟩
end Go.Proofs.YtanlnelfbfjelaaDoor
namespace Go.Proofs
open Go.Shelf Go.RowKit
def Tryd.lays146_ren : Go.Shelf.Ren := ⟨fun | 146 => 15 | 221 => 31 | 268 => 45 | 138 => 46 | 143 => 47 | 195 => 64 | 197 => 65 | 218 => 66 | 219 => 67 | 260 => 76 | 217 => 77 | 225 => 78 | 224 => 79 | 267 => 80 | 266 => 88 | 314 => 89 | n => n, fun | 9 => 9 | 31 => 40 | 3 => 3 | 4 => 4 | 0 => 0 | 105 => 109 | 21 => 21 | 5 => 5 | 46 => 123 | 119 => 132 | 139 => 135 | 138 => 134 | 146 => 136 | 51 => 128 | n => n, fun | 1 => 2 | 3 => 4 | 4 => 5 | n => n⟩
theorem Tryd.lays146 : Go.Proofs.Lays.n146 Tryd.prog Tryd.lays146_ren := {
  mixed := by kernel_rfl
  f138 := Tryd.func46.trans (congrArg some (by kernel_rfl))
  f143 := Tryd.func47.trans (congrArg some (by kernel_rfl))
  f146 := Tryd.func15.trans (congrArg some (by kernel_rfl))
  f195 := Tryd.func64.trans (congrArg some (by kernel_rfl))
  f197 := Tryd.func65.trans (congrArg some (by kernel_rfl))
  f217 := Tryd.func77.trans (congrArg some (by kernel_rfl))
  f218 := Tryd.func66.trans (congrArg some (by kernel_rfl))
  f219 := Tryd.func67.trans (congrArg some (by kernel_rfl))
  f221 := Tryd.func31.trans (congrArg some (by kernel_rfl))
  f224 := Tryd.func79.trans (congrArg some (by kernel_rfl))
  f225 := Tryd.func78.trans (congrArg some (by kernel_rfl))
  f260 := Tryd.func76.trans (congrArg some (by kernel_rfl))
  f266 := Tryd.func88.trans (congrArg some (by kernel_rfl))
  f267 := Tryd.func80.trans (congrArg some (by kernel_rfl))
  f268 := Tryd.func45.trans (congrArg some (by kernel_rfl))
  f314 := Tryd.func89.trans (congrArg some (by kernel_rfl))
  t0 := Tryd.underlying0
  a0 := Tryd.isAgg0
  z0 := Tryd.sizeOf0
  v0 := Tryd.zeroValue0
  t3 := Tryd.underlying3
  a3 := Tryd.isAgg3
  z3 := Tryd.sizeOf3
  v3 := Tryd.zeroValue3
  t4 := Tryd.underlying4
  a4 := Tryd.isAgg4
  z4 := Tryd.sizeOf4
  v4 := Tryd.zeroValue4
  t5 := Tryd.underlying5
  a5 := Tryd.isAgg5
  z5 := Tryd.sizeOf5
  v5 := Tryd.zeroValue5
  t9 := Tryd.underlying9
  a9 := Tryd.isAgg9
  z9 := Tryd.sizeOf9
  v9 := Tryd.zeroValue9
  t21 := Tryd.underlying21
  a21 := Tryd.isAgg21
  z21 := Tryd.sizeOf21
  v21 := Tryd.zeroValue21
  t31 := Tryd.underlying40
  a31 := Tryd.isAgg40
  z31 := Tryd.sizeOf40
  v31 := Tryd.zeroValue40
  t46 := Tryd.underlying123
  a46 := Tryd.isAgg123
  z46 := Tryd.sizeOf123
  v46 := Tryd.zeroValue123
  t51 := Tryd.underlying128
  a51 := Tryd.isAgg128
  z51 := Tryd.sizeOf128
  v51 := Tryd.zeroValue128
  t105 := Tryd.underlying109
  a105 := Tryd.isAgg109
  z105 := Tryd.sizeOf109
  v105 := Tryd.zeroValue109
  t119 := Tryd.underlying132
  a119 := Tryd.isAgg132
  z119 := Tryd.sizeOf132
  t138 := Tryd.underlying134
  a138 := Tryd.isAgg134
  z138 := Tryd.sizeOf134
  v138 := Tryd.zeroValue134
  t139 := Tryd.underlying135
  a139 := Tryd.isAgg135
  z139 := Tryd.sizeOf135
  v139 := Tryd.zeroValue135
  t146 := Tryd.underlying136
  a146 := Tryd.isAgg136
  z146 := Tryd.sizeOf136
  v146 := Tryd.zeroValue136
  g1 := by kernel_rfl
  g3 := by kernel_rfl
  g4 := by kernel_rfl }
open Go.RowKit Go.Lib in
theorem Tryd.strings_Split (s sep : ByteArray) (m : Int) (w : World) (hs : s.size < 4294967281) (hm : w.cell? ⟨2, 0, none⟩ = some (.int .i64 m)) (h1 : 1 ≤ sep.size) :
    Calls Tryd.prog 15 #[.string s, .string sep] w fun e w' =>
      e = .returned (.slice (some ⟨w.heap.size, 0, none⟩) (Lib.countB s sep + 1) (Lib.countB s sep + 1)) ∧ w' = w.alloc (.cells ((Lib.splitB sep 0 (Lib.countB s sep) s).map Value.string).toArray 9) := Any.strings_Split Tryd.lays146 (by kernel_rfl) s sep m w hs hm h1
def Tryd.laysM316_ren : Go.Shelf.Ren := ⟨fun | 316 => 68 | n => n, fun | 9 => 9 | 3 => 3 | 4 => 4 | 37 => 64 | 0 => 0 | 127 => 93 | 5 => 5 | n => n, fun | n => n⟩
theorem Tryd.laysM316 : Go.Proofs.LaysM.n316 Tryd.prog Tryd.laysM316_ren := {
  mixed := by kernel_rfl
  f316 := Tryd.func68.trans (congrArg some (by kernel_rfl))
  t0 := Tryd.underlying0
  a0 := Tryd.isAgg0
  z0 := Tryd.sizeOf0
  v0 := Tryd.zeroValue0
  t3 := Tryd.underlying3
  a3 := Tryd.isAgg3
  z3 := Tryd.sizeOf3
  v3 := Tryd.zeroValue3
  t4 := Tryd.underlying4
  a4 := Tryd.isAgg4
  z4 := Tryd.sizeOf4
  v4 := Tryd.zeroValue4
  t9 := Tryd.underlying9
  a9 := Tryd.isAgg9
  z9 := Tryd.sizeOf9
  v9 := Tryd.zeroValue9
  t37 := Tryd.underlying64
  a37 := Tryd.isAgg64
  z37 := Tryd.sizeOf64
  v37 := Tryd.zeroValue64
  t127 := Tryd.underlying93
  a127 := Tryd.isAgg93
  z127 := Tryd.sizeOf93
  v127 := Tryd.zeroValue93
  t5 := Tryd.underlying5
  a5 := Tryd.isAgg5
  z5 := Tryd.sizeOf5
  v5 := Tryd.zeroValue5
  i0 := by kernel_rfl
  i3 := by kernel_rfl
  i4 := by kernel_rfl
  i5 := by kernel_rfl
  i9 := by kernel_rfl
  i37 := by kernel_rfl
  i127 := by kernel_rfl }
open Go.RowKit in
theorem Tryd.stringslite_Clone (s : ByteArray) (w : World) (hlim : s.size ≤ 281474976710656) :
    Calls Tryd.prog 68 #[.string s] w fun e w' => e = .returned (.string s) ∧ Below w.heap.size w w' := Any.stringslite_Clone Tryd.laysM316 s w hlim
end Go.Proofs
namespace Go.Proofs.YtanlnelfbfjelaaDoor
open Go.RowKit Go.Maps
def zx0 : Nat → Int := fun _ => 0
theorem built_cl0 : Tryd.prog.built 24 [] = some (clA ⟨#[]⟩ zx0 (.slice none 0 0)) := by kernel_rfl
theorem wpList_buildCl0 {w : World} {ops : Array Oper} {rest : List Oper} {o : Oper} {a : Act} {Q : Exit → Act → World → Prop} (hgd : o.guard = none) (ho : o.op = .build 24 #[])
    (h : wpList Tryd.prog ops Q rest (a.put o.dst (.agg (clA ⟨#[]⟩ zx0 (.slice none 0 0)))) w) : wpList Tryd.prog ops Q (o :: rest) a w := by
  refine wpList_plain hgd fun K hK => ?_
  unfold Oper.wp execOp
  simp only [ho, List.map_toArray, List.map_nil, Sem.run_bind, Sem.run_pure, Result.andThen_ok, run_build w 24 _ (clA ⟨#[]⟩ zx0 (.slice none 0 0)) built_cl0]
  exact hK _ _ h
set_option maxRecDepth 100000 in
theorem setA_wd (B i : Nat) (h : i < 21) : (setA B)[i * 4]? = some (.string (strOf (swd i))) := by
  have : i = 0 ∨ i = 1 ∨ i = 2 ∨ i = 3 ∨ i = 4 ∨ i = 5 ∨ i = 6 ∨ i = 7 ∨ i = 8 ∨ i = 9 ∨ i = 10 ∨ i = 11 ∨ i = 12 ∨ i = 13 ∨ i = 14 ∨ i = 15 ∨ i = 16 ∨ i = 17 ∨ i = 18 ∨ i = 19 ∨ i = 20 := by omega
  rcases this with rfl | rfl | rfl | rfl | rfl | rfl | rfl | rfl | rfl | rfl | rfl | rfl | rfl | rfl | rfl | rfl | rfl | rfl | rfl | rfl | rfl <;> rfl
theorem StAt.w0 {w : World} {b : Nat} {s : ByteArray} {p : Option Addr} {l h : Int} (k : StAt w b s p l h) : w.cell? ⟨b, 0, none⟩ = some (.string s) := by unfold World.cell?; rw [show w.heap[b]? = _ from k]; rfl
theorem str_eq (a b : List UInt8) : ((strOf a).toList == (strOf b).toList) = decide (a = b) := by
  rw [toList_data, toList_data, strOf_data, strOf_data]
  by_cases h : a = b
  · rw [decide_eq_true h, h]; exact beq_self_eq_true _
  · rw [decide_eq_false h]; exact beq_eq_false_iff_ne.2 h
set_option maxHeartbeats 8000000 in
set_option maxRecDepth 100000 in
set_option linter.unusedSimpArgs false in
set_option linter.unusedVariables false in
theorem isSetting_any (w : World) (l : List UInt8) :
    Calls Tryd.prog 51 #[.string (strOf l)] w fun e w' => e = .returned (.bool (decide (wdI l < 21))) ∧ Below w.heap.size w w' := by
  obtain ⟨W0, hW0⟩ : ∃ W0, W0 = w.alloc (.cells (clA ⟨#[]⟩ zx0 (.slice none 0 0)) 24) := ⟨_, rfl⟩
  have B0 : Hid (Below w.heap.size w W0) := by rw [hW0]; exact (Below.refl _ _).alloc (Nat.le_refl _) _
  have SE := hide (settings_any W0 w.heap.size)
  go_enter Tryd.func51, Tryd.ntmps51
  go_wp2_with (refine wpList_buildCl0 rfl rfl ?_)
  rw [← hW0]
  clear hW0
  refine Calls.mono SE.out ?_
  rintro e W1 ⟨g, rfl, hg, hgs, hb⟩
  have G1 := hide hg
  have B1 := hide (B0.out.trans (hb.mono B0.out.size))
  clear hg hgs hb SE B0
  go_wp2_with fail
  go_loopw [9] (fun vi wr => ∃ (q : Nat), q ≤ 21 ∧ vi = .int .i64 (q : Int) ∧ Hid (∀ j, j < q → swd j ≠ l) ∧ Below W1.heap.size W1 wr) (fun vi _ => 21 - (intOf vi).toNat)
  case atStart => exact ⟨0, Nat.zero_le _, rfl, fun j hj => absurd hj (Nat.not_lt_zero _), Below.refl _ _⟩
  case round =>
    obtain ⟨q, hq, rfl, hA, hB⟩ := hrel
    have HB := hide hB
    clear hB
    by_cases hql : q < 21
    case pos =>
      have hqi : (q : Int) < 21 := by omega
      obtain ⟨_, c1, c2, c3⟩ := setA_at w.heap.size q hql
      have c0 := setA_wd w.heap.size q hql
      have G2 : wr.heap[g]? = some (.cells (setA w.heap.size) 78) := (HB.out.block _ (blk_lt G1.out)).trans G1.out
      have d0 := (set_cell G2 (q * 4)).trans c0
      have d1 := (set_cell G2 (q * 4 + 1)).trans c1
      have d2 := (set_cell G2 (q * 4 + 2)).trans c2
      have d3 := (set_cell G2 (q * 4 + 3)).trans c3
      clear c0 c1 c2 c3 G2
      have HE := str_eq (swd q) l
      have HQ : Hid (swd q = l → wdI l = q) := fun e => wdI_hit hql e
      have HT : Hid (swd q ≠ l → ∀ j, j < q + 1 → swd j ≠ l) := fun e j hj => by
        by_cases h : j = q
        · subst h; exact e
        · exact hA.out j (by omega)
      obtain ⟨wq, hwq⟩ : ∃ wq, wq = strOf (swd q) := ⟨_, rfl⟩
      rw [← hwq] at d0 HE
      clear hwq
      generalize loS q = lo at *
      generalize hiS q = hh at *
      obtain ⟨W2, hW2⟩ : ∃ W2, W2 = wr.alloc (.cells #[.string wq, .pointer (some ⟨w.heap.size, q + 1, none⟩), .int .i64 lo, .int .i64 hh] 78) := ⟨_, rfl⟩
      have S2 : Hid (StAt W2 wr.heap.size wq (some ⟨w.heap.size, q + 1, none⟩) lo hh) := by rw [hW2]; exact heap_last _ _
      have BB : Hid (Below W1.heap.size W1 W2) := by rw [hW2]; exact HB.out.alloc HB.out.size _
      by_cases e : swd q = l
      · have HZ := hide (HQ.out e)
        rw [decide_eq_true e] at HE
        clear e HQ HT
        go_wp2_with fail
        rw [← hW2]
        clear hW2 d0 d1 d2 d3
        have t0 := S2.out.w0
        go_wp2_with fail
        go_ret
        exact ⟨ret_bool (by rw [HZ.out, decide_eq_true hql]), B1.out.trans (BB.out.mono B1.out.size)⟩
      · have HZ := hide (HT.out e)
        rw [decide_eq_false e] at HE
        clear e HQ HT
        go_wp2_with fail
        rw [← hW2]
        clear hW2 d0 d1 d2 d3
        have t0 := S2.out.w0
        go_wp2_with fail
        go_roundw
        case rel => exact ⟨q + 1, by omega, by go_num, HZ.out, BB.out⟩
        case measure => simp [intOf]; omega
    case neg =>
      obtain rfl : q = 21 := by omega
      have HZ := hide (wdI_miss hA.out)
      clear hA
      go_wp2_with fail
      go_ret
      exact ⟨ret_bool (by rw [HZ.out]; rfl), B1.out.trans (HB.out.mono B1.out.size)⟩
theorem infoIntT : (Tryd.prog.info? 3).map (fun i => (i.zero, i.size, i.bytes)) = some (some (.int .i64 0), 1, 8) := by kernel_rfl
theorem one_cellT (w : World) (n : Int) : ∀ j u, (ints [n])[j]? = some u → (w.alloc (.cells #[.int .i64 n] 3)).cell? ((⟨w.heap.size, 0, none⟩ : Addr).add j) = some u := by
  intro j u h
  exact cell_one_new _ _ _ j u (by simpa [ints] using h)
set_option maxHeartbeats 8000000 in
set_option maxRecDepth 100000 in
set_option linter.unusedSimpArgs false in
set_option linter.unusedVariables false in
theorem readParts_any (w : World) (ao : Option Addr) (b o cap : Nat) (L : List (List UInt8)) (h : WsAt w ao b o L) (hl : L.length ≤ 70000) (hw : ∀ l ∈ L, l.length ≤ 70000) :
    Calls Tryd.prog 50 #[.slice ao L.length cap] w fun e w' => Below w.heap.size w w' ∧ ∃ v, e = .returned (.tuple #[v, .bool (L.all okN)]) ∧ (∃ ba n c, v = .slice ba n c) ∧ (L.all okN = true → w'.ownsRow w.heap.size 3 1 v L.length (ints (L.map numV))) := by
  obtain ⟨k0, hk0, hx0, hx1, hx2⟩ := info_parts infoIntT
  have HW := hide h
  have HL := hide hw
  clear h hw
  obtain ⟨R, hR⟩ : ∃ R, R = L.all okN := ⟨_, rfl⟩
  rw [← hR]
  have HR := hide hR
  clear hR
  go_enter Tryd.func50, Tryd.ntmps50
  go_wp2_with fail
  go_loopw [4, 11] (fun v vi wr => ∃ (q : Nat), q ≤ L.length ∧ vi = .int .i64 (q : Int) ∧ Hid ((L.take q).all okN = true) ∧ Hid (wr.ownsRow w.heap.size 3 1 v q (ints ((L.take q).map numV))) ∧ Below w.heap.size w wr) (fun _ vi _ => L.length - (intOf vi).toNat)
  case atStart => exact ⟨0, Nat.zero_le _, rfl, rfl, World.ownsRow_nil _ _ _ _, Below.refl _ _⟩
  case round =>
    obtain ⟨q, hq, rfl, hA, hO, hB⟩ := hrel
    have HB := hide hB
    clear hB
    by_cases hql : q < L.length
    case pos =>
      have hao := HW.out.at0 (by omega)
      subst hao
      have hqi : (q : Int) < (L.length : Int) := by omega
      have e0 := (HW.out.below HB.out).c q hql
      have HT := hide (all_take hql hA.out)
      have HF := hide (all_no (f := okN) hql)
      have HM : Hid ((L.take (q + 1)).map numV = (L.take q).map numV ++ [numV L[q]]) := by
        show _ = _
        rw [List.take_succ_eq_append_getElem hql, List.map_append]
        rfl
      have hsz := HL.out L[q] (List.getElem_mem hql)
      have NM := hide (fun w' => num10_any (strOf L[q]) w' (by rw [strOf_size]; omega))
      rw [strOf_data] at NM
      have HV := hide (numV_le L[q])
      have HN := hide (fun (h : okN L[q] = true) => nmW_ok (l := L[q]) h)
      generalize L[q] = l at *
      go_wp2_with fail
      refine Calls.mono (NM.out _) ?_
      rintro e W1 ⟨rfl, rfl⟩
      generalize nmW l = nv at *
      cases hk : okN l
      · have HZ := hide (HF.out hk)
        rw [hk] at *
        clear HT HM HN hk
        go_wp2_with fail
        go_ret2
        refine ⟨HB.out, .slice none 0 0, ?_, ⟨_, _, _, rfl⟩, fun h => by rw [HR.out, HZ.out] at h; cases h⟩
        rw [HR.out, HZ.out]
        rfl
      · have HZ := hide (HT.out hk)
        obtain rfl : nv = numV l := HN.out hk
        generalize numV l = nv at *
        clear HT HF HN hk
        have hbs := HB.out.size
        obtain ⟨ba, cc, hv, _⟩ := own_sl hO.out
        subst hv
        go_wp2_with (at_builtin; refine wpList_append_own _ rfl _ _ 33 rfl w.heap.size 3 k0 (.int .i64 0) 1 8 Tryd.underlying33 hk0 hx0 hx1 hx2 rfl (by decide) _ _ _ rfl (hO.out.alloc _) ⟨wr.heap.size, 0, none⟩ 1 1 (ints [nv]) rfl rfl (one_cellT wr nv) (ints_one _) (by unfold maxLen; omega) (by omega) (by simp; omega) ?_; intro v2 X3 o3 g3 n3)
        go_roundw
        case rel =>
          refine ⟨q + 1, by omega, by go_num, HZ.out, ?_, (HB.out.alloc hbs _).grown g3 (by simp; omega) (fun j hj => (hO.out.lt j hj).1)⟩
          show World.ownsRow _ _ _ _ _ _ _
          rw [HM.out]
          have := o3
          unfold ints at *
          rw [List.map_append]
          exact this
        case measure => simp [intOf]; omega
    case neg =>
      obtain rfl : q = L.length := by omega
      have hA' := hA.out
      rw [List.take_length] at hA'
      have HA := hide hA'
      have hO' := hO.out
      rw [List.take_length] at hO'
      obtain ⟨ba, cc, hv, _⟩ := own_sl hO'
      have HO := hide hO'
      subst hv
      clear hA' hA hO hO'
      go_wp2_with fail
      go_ret2
      refine ⟨HB.out, _, ?_, ⟨_, _, _, rfl⟩, fun _ => HO.out⟩
      rw [HR.out, HA.out]
      rfl
end Go.Proofs.YtanlnelfbfjelaaDoor
namespace Go.Proofs.YtanlnelfbfjelaaDoor
open Go.RowKit Go.Maps
set_option maxHeartbeats 2000000 in
set_option maxRecDepth 100000 in
theorem clone_any (s : ByteArray) (hs : s.size ≤ 281474976710656) (w : World) :
    Calls Tryd.prog 48 #[.string s] w fun e w' => e = .returned (.string s) ∧ Below w.heap.size w w' := by
  have C := hide (Tryd.stringslite_Clone s w hs)
  go_enter Tryd.func48, Tryd.ntmps48
  go_wp2_with fail
  refine Calls.mono C.out ?_
  rintro e wx ⟨rfl, bx⟩
  go_wp2_with fail
  go_ret
  exact ⟨rfl, bx⟩
def nameD (L : List (List UInt8)) : Sd := if L.length = 2 ∧ wAt L 1 ≠ [] then .store (wAt L 1) else .no
def setD (L : List (List UInt8)) : Sd := if L.length = 2 ∧ wdI (wAt L 0) < 21 ∧ okN (wAt L 1) = true then .one (wdI (wAt L 0)) (numV (wAt L 1)) else .no
def nodeD (L : List (List UInt8)) (k : Nat) : Sd := if ndOk L k = true then .node (ndV L) else .no
theorem rdW_eq (L : List (List UInt8)) (k : Nat) : rdW L k = if wAt L 0 = storeW then nameD L else if wAt L 0 = nodeW then nodeD L k else setD L := by
  have hne : ¬ storeW = nodeW := by decide
  have hne2 : ¬ nodeW = storeW := by decide
  unfold rdW nameD nodeD setD okN
  by_cases h0 : wAt L 0 = storeW
  · by_cases h2 : L.length = 2 <;> by_cases h3 : wAt L 1 = [] <;> simp [h0, hne, h2, h3]
  · by_cases h1 : wAt L 0 = nodeW
    · simp [h1, hne2]
    · by_cases h2 : L.length = 2 <;> simp [h0, h1, h2]
/-- a line's step, as the program takes it -/
structure Stp (N S M base n : Nat) (s : PS) (W : World) (d : Sd) (e : Ending) (w' : World) : Prop where
  er : e = .returned (.int .i64 (stE s d))
  kp : Kp N base S M W w'
  nx : stE s d = 0 → ∃ vl zs, SaAt w' S M base (n + 1) (stN s d) vl zs
theorem Stp.no {N S M base n : Nat} {s : PS} {W w' : World} (hb : Below W.heap.size W w') (hN : N ≤ W.heap.size) (hs : base ≤ W.heap.size) : Stp N S M base n s W .no (.returned (.int .i64 60)) w' :=
  ⟨rfl, Kp.of hb hN hs, fun h => absurd (show (60 : Int) = 0 from h) (by decide)⟩
theorem emp_eq (l : List UInt8) : (strOf l).toList.isEmpty = decide (l = []) := by
  rw [toList_data, strOf_data]
  cases l <;> rfl
theorem SaAt.setStore {w : World} {S M base n : Nat} {s : PS} {vl : Value} {zs : List (Int × Value)} (h : SaAt w S M base n s vl zs) (l : List UInt8) (hl : l.length ≤ 70000) : SaAt (w.setCell ⟨S, 0, none⟩ (.string (strOf l))) S M base n { s with st := l } vl zs := by
  obtain ⟨D, hD, hx⟩ := h.mp
  refine ⟨?_, h.tw.set h.lt.1 _, h.zl, ⟨D, hD.setCell (fun e => h.lt.2.2.1 e.symm) _, hx⟩, ⟨h.lt.1, h.lt.2.1, h.lt.2.2.1, by rw [set_size]; exact h.lt.2.2.2⟩, h.nl, h.pl, hl, h.xl⟩
  simp only [World.setCell, Array.getElem?_modify, if_true, h.c, Option.map_some]
  rfl
set_option maxHeartbeats 8000000 in
set_option maxRecDepth 100000 in
set_option linter.unusedSimpArgs false in
set_option linter.unusedVariables false in
theorem name_any (N S M base n : Nat) (s : PS) (vl : Value) (zs : List (Int × Value)) (W : World) (b cap : Nat) (L : List (List UInt8)) (h : SaAt W S M base n s vl zs) (hw : WsAt W (some ⟨b, 0, none⟩) b 0 L) (hN : N ≤ S) (hl : L.length ≤ 70000) (hm : ∀ l ∈ L, l.length ≤ 70000) :
    Calls Tryd.prog 32 #[.pointer (some ⟨S, 0, none⟩), .slice (some ⟨b, 0, none⟩) L.length cap] W (Stp N S M base n s W (nameD L)) := by
  have HL := hide h.lt
  by_cases h2 : L.length = 2
  case neg =>
    have hd : nameD L = .no := by unfold nameD; rw [if_neg (fun h => h2 h.1)]
    rw [hd]
    have h2' : ¬ (L.length : Int) = 2 := by omega
    clear hd h hw hm
    generalize L.length = m at *
    go_enter Tryd.func32, Tryd.ntmps32
    go_wp2_with fail
    go_ret
    exact Stp.no (Below.refl _ _) (by have := HL.out; omega) HL.out.2.2.2
  obtain ⟨l0, l1, rfl⟩ : ∃ l0 l1, L = [l0, l1] := by
    match L, h2 with
    | [x, y], _ => exact ⟨x, y, rfl⟩
  have e1 := hw.at 1 (by simp)
  rw [show wAt [l0, l1] 1 = l1 from rfl] at e1
  have hl1 := hm l1 (by simp)
  have HS := hide h
  have c0 := h.c0
  have ES := emp_eq s.st
  have E1 := emp_eq l1
  clear h hw hm hl h2
  have CL := hide (fun w' => clone_any (strOf l1) (by rw [strOf_size]; omega) w')
  obtain ⟨s1, hs1⟩ : ∃ s1, s1 = strOf l1 := ⟨_, rfl⟩
  obtain ⟨s0, hs0⟩ : ∃ s0, s0 = strOf s.st := ⟨_, rfl⟩
  rw [← hs1] at e1 E1 CL
  rw [← hs0] at c0 ES
  have H1 := hide hs1
  clear hs1 hs0
  by_cases h1 : l1 = []
  · have hd : nameD [l0, l1] = .no := by unfold nameD; rw [if_neg (fun h => h.2 h1)]
    rw [hd]
    rw [decide_eq_true h1] at E1
    clear hd h1
    go_enter Tryd.func32, Tryd.ntmps32
    go_wp2_with fail
    go_ret
    exact Stp.no (Below.refl _ _) (by have := HL.out; omega) HL.out.2.2.2
  have hd : nameD [l0, l1] = .store l1 := by unfold nameD; rw [if_pos ⟨rfl, h1⟩]; rfl
  rw [hd]
  rw [decide_eq_false h1] at E1
  clear hd h1
  by_cases h0 : s.st = []
  · have HE : Hid (stE s (.store l1) = 0) := by show (if s.st = [] then (0 : Int) else 61) = 0; rw [if_pos h0]
    rw [decide_eq_true h0] at ES
    clear h0
    go_enter Tryd.func32, Tryd.ntmps32
    go_wp2_with fail
    refine Calls.mono (CL.out _) ?_
    rintro e W1 ⟨rfl, hb⟩
    have HB := hide hb
    have S1 := hide (HS.out.keep hb)
    have c1 := S1.out.c0
    have f1 := S1.out.fz 0
    clear hb c0 e1 ES E1
    go_wp2_with fail
    go_ret
    refine ⟨by rw [HE.out]; rfl, (Kp.of HB.out (by have := HL.out; omega) HL.out.2.2.2).set hN _ _, fun _ => ⟨vl, zs, ?_⟩⟩
    rw [H1.out]
    exact (S1.out.setStore l1 hl1).more (by omega)
  · have HE : Hid (stE s (.store l1) = 61) := by show (if s.st = [] then (0 : Int) else 61) = 61; rw [if_neg h0]
    rw [decide_eq_false h0] at ES
    clear h0
    go_enter Tryd.func32, Tryd.ntmps32
    go_wp2_with fail
    go_ret
    exact ⟨by rw [HE.out]; rfl, Kp.refl _ _ _ _ _, fun h => by rw [HE.out] at h; cases h⟩
end Go.Proofs.YtanlnelfbfjelaaDoor
