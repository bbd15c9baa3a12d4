import Derived.Shelf.Strings.OnBuilder
import Derived.Shelf.Strings.BuilderF
import Derived.Shelf.Strconv.Itoa3
import Derived.Test.YtioiphonajinmaaDoorProg
import Derived.Shelf.Strings.BuilderK
import Derived.Test.YtioiphonajinmaaDoorGGcApp
import Derived.Test.YtioiphonajinmaaDoorGDgPlain
import Derived.Lib.ItoaLen
import Derived.Lib.AppendIntMem
import Derived.Test.YtioiphonajinmaaDoorGGmMade
import Derived.Test.YtioiphonajinmaaDoorGcHand
import Derived.Test.YtioiphonajinmaaDoorGGcSame
import Derived.Test.YtioiphonajinmaaDoorGGhSorted
namespace Go.Proofs
open Go.Shelf Go.RowKit
def Tryd.lays156_ren : Go.Shelf.Ren := ⟨fun | 156 => 33 | 165 => 62 | 166 => 32 | 169 => 36 | 240 => 61 | 241 => 83 | 276 => 82 | 277 => 104 | n => n, fun | 31 => 61 | 9 => 9 | 3 => 3 | 4 => 4 | 0 => 0 | 20 => 20 | 72 => 86 | 76 => 89 | 70 => 83 | 37 => 84 | 75 => 88 | 127 => 132 | 164 => 152 | 5 => 5 | 80 => 81 | n => n, fun | n => n⟩
theorem Tryd.lays156 : Go.Proofs.Lays.n156 Tryd.prog Tryd.lays156_ren := {
  mixed := by kernel_rfl
  f156 := Tryd.func33.trans (congrArg some (by kernel_rfl))
  f165 := Tryd.func62.trans (congrArg some (by kernel_rfl))
  f166 := Tryd.func32.trans (congrArg some (by kernel_rfl))
  f169 := Tryd.func36.trans (congrArg some (by kernel_rfl))
  f240 := Tryd.func61.trans (congrArg some (by kernel_rfl))
  f241 := Tryd.func83.trans (congrArg some (by kernel_rfl))
  f276 := Tryd.func82.trans (congrArg some (by kernel_rfl))
  f277 := Tryd.func104.trans (congrArg some (by kernel_rfl))
  t0 := Tryd.underlying0
  a0 := Tryd.isAgg0
  z0 := Tryd.sizeOf0
  v0 := Tryd.zeroValue0
  t3 := Tryd.underlying3
  a3 := Tryd.isAgg3
  z3 := Tryd.sizeOf3
  v3 := Tryd.zeroValue3
  t4 := Tryd.underlying4
  a4 := Tryd.isAgg4
  z4 := Tryd.sizeOf4
  v4 := Tryd.zeroValue4
  t9 := Tryd.underlying9
  a9 := Tryd.isAgg9
  z9 := Tryd.sizeOf9
  v9 := Tryd.zeroValue9
  t20 := Tryd.underlying20
  a20 := Tryd.isAgg20
  z20 := Tryd.sizeOf20
  v20 := Tryd.zeroValue20
  t31 := Tryd.underlying61
  a31 := Tryd.isAgg61
  z31 := Tryd.sizeOf61
  v31 := Tryd.zeroValue61
  t37 := Tryd.underlying84
  a37 := Tryd.isAgg84
  z37 := Tryd.sizeOf84
  v37 := Tryd.zeroValue84
  t70 := Tryd.underlying83
  a70 := Tryd.isAgg83
  z70 := Tryd.sizeOf83
  v70 := Tryd.zeroValue83
  t72 := Tryd.underlying86
  a72 := Tryd.isAgg86
  z72 := Tryd.sizeOf86
  v72 := Tryd.zeroValue86
  t75 := Tryd.underlying88
  a75 := Tryd.isAgg88
  z75 := Tryd.sizeOf88
  v75 := Tryd.zeroValue88
  t76 := Tryd.underlying89
  a76 := Tryd.isAgg89
  z76 := Tryd.sizeOf89
  v76 := Tryd.zeroValue89
  t127 := Tryd.underlying132
  a127 := Tryd.isAgg132
  z127 := Tryd.sizeOf132
  v127 := Tryd.zeroValue132
  t164 := Tryd.underlying152
  a164 := Tryd.isAgg152
  z164 := Tryd.sizeOf152
  v164 := Tryd.zeroValue152 }
theorem Tryd.Builder_Extra_156 : Builder.Extra Tryd.prog Tryd.lays156_ren := {
  sizeBuilder := by kernel_rfl
  liesBuilder := by kernel_rfl
  t5 := Tryd.underlying5
  a5 := Tryd.isAgg5
  z5 := Tryd.sizeOf5
  v5 := Tryd.zeroValue5
  infoByte := by kernel_rfl
  cellsByte := by kernel_rfl
  sizeByte := by kernel_rfl
  neB5 := by decide }
open Go.RowKit in
theorem Tryd.strings_Join (bk o c : Nat) (xs : List ByteArray) (sep : ByteArray) (w : World) (hcells : ∀ (j : Nat) x, xs[j]? = some x → w.cell? ⟨bk, o + j, none⟩ = some (.string x)) (hbk : bk < w.heap.size) (hN : xs.length ≤ 140737488355328) (hcap : xs.length ≤ c) (hlen : (Lib.join (xs.map (·.data.toList)) sep.data.toList).length ≤ 140737488355328) :
    Calls Tryd.prog 33 #[.slice (some ⟨bk, o, none⟩) xs.length c, .string sep] w fun e w' => e = .returned (.string ⟨(Lib.join (xs.map (·.data.toList)) sep.data.toList).toArray⟩) ∧ Below w.heap.size w w' := Any.strings_Join Tryd.lays156 Tryd.Builder_Extra_156 bk o c xs sep w hcells hbk hN hcap hlen
def Tryd.laysM171_ren : Go.Shelf.Ren := ⟨fun | 171 => 35 | 243 => 63 | 246 => 84 | 283 => 105 | 284 => 106 | 285 => 107 | 286 => 108 | 129 => 99 | 317 => 120 | 318 => 121 | 319 => 122 | 320 => 123 | 337 => 126 | 338 => 127 | n => n, fun | 3 => 3 | 9 => 9 | 2 => 2 | 4 => 4 | 171 => 173 | 0 => 0 | 53 => 129 | 37 => 84 | 5 => 5 | 173 => 175 | 212 => 189 | 51 => 74 | 20 => 20 | 213 => 190 | 46 => 125 | 232 => 196 | 233 => 77 | n => n, fun | 17 => 7 | 18 => 9 | 19 => 10 | n => n⟩
theorem Tryd.laysM171 : Go.Proofs.LaysM.n171 Tryd.prog Tryd.laysM171_ren := {
  mixed := by kernel_rfl
  f129 := Tryd.func99.trans (congrArg some (by kernel_rfl))
  f171 := Tryd.func35.trans (congrArg some (by kernel_rfl))
  f243 := Tryd.func63.trans (congrArg some (by kernel_rfl))
  f246 := Tryd.func84.trans (congrArg some (by kernel_rfl))
  f283 := Tryd.func105.trans (congrArg some (by kernel_rfl))
  f284 := Tryd.func106.trans (congrArg some (by kernel_rfl))
  f285 := Tryd.func107.trans (congrArg some (by kernel_rfl))
  f286 := Tryd.func108.trans (congrArg some (by kernel_rfl))
  f317 := Tryd.func120.trans (congrArg some (by kernel_rfl))
  f318 := Tryd.func121.trans (congrArg some (by kernel_rfl))
  f319 := Tryd.func122.trans (congrArg some (by kernel_rfl))
  f320 := Tryd.func123.trans (congrArg some (by kernel_rfl))
  f337 := Tryd.func126.trans (congrArg some (by kernel_rfl))
  f338 := Tryd.func127.trans (congrArg some (by kernel_rfl))
  t0 := Tryd.underlying0
  a0 := Tryd.isAgg0
  z0 := Tryd.sizeOf0
  v0 := Tryd.zeroValue0
  t2 := Tryd.underlying2
  a2 := Tryd.isAgg2
  z2 := Tryd.sizeOf2
  v2 := Tryd.zeroValue2
  t3 := Tryd.underlying3
  a3 := Tryd.isAgg3
  z3 := Tryd.sizeOf3
  v3 := Tryd.zeroValue3
  t4 := Tryd.underlying4
  a4 := Tryd.isAgg4
  z4 := Tryd.sizeOf4
  v4 := Tryd.zeroValue4
  t5 := Tryd.underlying5
  a5 := Tryd.isAgg5
  z5 := Tryd.sizeOf5
  v5 := Tryd.zeroValue5
  t9 := Tryd.underlying9
  a9 := Tryd.isAgg9
  z9 := Tryd.sizeOf9
  v9 := Tryd.zeroValue9
  t20 := Tryd.underlying20
  a20 := Tryd.isAgg20
  z20 := Tryd.sizeOf20
  v20 := Tryd.zeroValue20
  t37 := Tryd.underlying84
  a37 := Tryd.isAgg84
  z37 := Tryd.sizeOf84
  v37 := Tryd.zeroValue84
  t46 := Tryd.underlying125
  a46 := Tryd.isAgg125
  z46 := Tryd.sizeOf125
  v46 := Tryd.zeroValue125
  t51 := Tryd.underlying74
  a51 := Tryd.isAgg74
  z51 := Tryd.sizeOf74
  v51 := Tryd.zeroValue74
  t53 := Tryd.underlying129
  a53 := Tryd.isAgg129
  z53 := Tryd.sizeOf129
  v53 := Tryd.zeroValue129
  t171 := Tryd.underlying173
  a171 := Tryd.isAgg173
  z171 := Tryd.sizeOf173
  v171 := Tryd.zeroValue173
  t173 := Tryd.underlying175
  a173 := Tryd.isAgg175
  z173 := Tryd.sizeOf175
  v173 := Tryd.zeroValue175
  t212 := Tryd.underlying189
  a212 := Tryd.isAgg189
  z212 := Tryd.sizeOf189
  v212 := Tryd.zeroValue189
  t213 := Tryd.underlying190
  a213 := Tryd.isAgg190
  z213 := Tryd.sizeOf190
  t232 := Tryd.underlying196
  a232 := Tryd.isAgg196
  z232 := Tryd.sizeOf196
  v232 := Tryd.zeroValue196
  t233 := Tryd.underlying77
  a233 := Tryd.isAgg77
  z233 := Tryd.sizeOf77
  v233 := Tryd.zeroValue77
  g17 := by kernel_rfl
  g18 := by kernel_rfl
  g19 := by kernel_rfl
  i0 := by kernel_rfl
  i2 := by kernel_rfl
  i3 := by kernel_rfl
  i4 := by kernel_rfl
  i5 := by kernel_rfl
  i9 := by kernel_rfl
  i20 := by kernel_rfl
  i37 := by kernel_rfl
  i46 := by kernel_rfl
  i51 := by kernel_rfl
  i53 := by kernel_rfl
  i171 := by kernel_rfl
  i173 := by kernel_rfl
  i212 := by kernel_rfl
  i232 := by kernel_rfl
  i233 := by kernel_rfl
  m17 := by kernel_rfl
  m18 := by kernel_rfl
  m19 := by kernel_rfl }
open Go.RowKit Go.Sort Go.Lib in
theorem Tryd.strconv_Itoa (n : Int) (h0 : -9223372036854775808 ≤ n) (h1 : n ≤ 9223372036854775807) (w : World) (htab : Lib.TabIs Tryd.prog w "internal/strconv.uint64pow10" .u64 Lib.pow10Tab) :
    Calls Tryd.prog 35 #[.int .i64 n] w fun e w' => e = .returned (.string ⟨(Lib.itoa n).toArray⟩) ∧ ∃ k os, w' = grow (w.drewN k) os := Any.strconv_Itoa Tryd.laysM171 n h0 h1 w htab
def Tryd.lays169_ren : Go.Shelf.Ren := ⟨fun | 169 => 36 | n => n, fun | 70 => 83 | 9 => 9 | 0 => 0 | 72 => 86 | 37 => 84 | 127 => 132 | 3 => 3 | 5 => 5 | n => n, fun | n => n⟩
theorem Tryd.lays169 : Go.Proofs.Lays.n169 Tryd.prog Tryd.lays169_ren := {
  mixed := by kernel_rfl
  f169 := Tryd.func36.trans (congrArg some (by kernel_rfl))
  t0 := Tryd.underlying0
  a0 := Tryd.isAgg0
  z0 := Tryd.sizeOf0
  v0 := Tryd.zeroValue0
  t3 := Tryd.underlying3
  a3 := Tryd.isAgg3
  z3 := Tryd.sizeOf3
  v3 := Tryd.zeroValue3
  t9 := Tryd.underlying9
  a9 := Tryd.isAgg9
  z9 := Tryd.sizeOf9
  v9 := Tryd.zeroValue9
  t37 := Tryd.underlying84
  a37 := Tryd.isAgg84
  z37 := Tryd.sizeOf84
  v37 := Tryd.zeroValue84
  t70 := Tryd.underlying83
  a70 := Tryd.isAgg83
  z70 := Tryd.sizeOf83
  v70 := Tryd.zeroValue83
  t72 := Tryd.underlying86
  a72 := Tryd.isAgg86
  z72 := Tryd.sizeOf86
  v72 := Tryd.zeroValue86
  t127 := Tryd.underlying132
  a127 := Tryd.isAgg132
  z127 := Tryd.sizeOf132
  v127 := Tryd.zeroValue132 }
theorem Tryd.Builder_Extra_169 : Builder.Extra Tryd.prog Tryd.lays169_ren := {
  sizeBuilder := by kernel_rfl
  liesBuilder := by kernel_rfl
  t5 := Tryd.underlying5
  a5 := Tryd.isAgg5
  z5 := Tryd.sizeOf5
  v5 := Tryd.zeroValue5
  infoByte := by kernel_rfl
  cellsByte := by kernel_rfl
  sizeByte := by kernel_rfl
  neB5 := by decide }
open Go.RowKit in
theorem Tryd.Builder_String_any_f (B b : Nat) (l : List UInt8) (w : World) (h : Lib.IsBuilderF 86 5 B b (Lib.byteCells l) w) (hBw : B ≤ w.heap.size) :
    Calls Tryd.prog 36 #[.pointer (some ⟨b, 0, none⟩)] w fun e w' => e = .returned (.string ⟨l.toArray⟩) ∧ (Lib.IsBuilderF 86 5 B b (Lib.byteCells l) w' ∧ Below B w w') := Any.Builder_String_any_f Tryd.lays169 Tryd.Builder_Extra_169 B b l w h hBw
end Go.Proofs
namespace Go.Proofs
open Go.Shelf Go.RowKit
def Tryd.bs_ren : Go.Shelf.Ren := ⟨fun | 166 => 32 | 240 => 61 | 276 => 82 | n => n, fun | 9 => 9 | 3 => 3 | 4 => 4 | 20 => 20 | 0 => 0 | 72 => 86 | 70 => 83 | 37 => 84 | 75 => 88 | 80 => 81 | 164 => 152 | 5 => 5 | n => n, fun | n => n⟩
theorem Tryd.bs_lays : Go.Proofs.Lays.n166 Tryd.prog Tryd.bs_ren := {
  mixed := by kernel_rfl
  f166 := Tryd.func32.trans (congrArg some (by kernel_rfl))
  f240 := Tryd.func61.trans (congrArg some (by kernel_rfl))
  f276 := Tryd.func82.trans (congrArg some (by kernel_rfl))
  t0 := Tryd.underlying0
  a0 := Tryd.isAgg0
  z0 := Tryd.sizeOf0
  v0 := Tryd.zeroValue0
  t3 := Tryd.underlying3
  a3 := Tryd.isAgg3
  z3 := Tryd.sizeOf3
  v3 := Tryd.zeroValue3
  t4 := Tryd.underlying4
  a4 := Tryd.isAgg4
  z4 := Tryd.sizeOf4
  v4 := Tryd.zeroValue4
  t9 := Tryd.underlying9
  a9 := Tryd.isAgg9
  z9 := Tryd.sizeOf9
  v9 := Tryd.zeroValue9
  t20 := Tryd.underlying20
  a20 := Tryd.isAgg20
  z20 := Tryd.sizeOf20
  v20 := Tryd.zeroValue20
  t37 := Tryd.underlying84
  a37 := Tryd.isAgg84
  z37 := Tryd.sizeOf84
  v37 := Tryd.zeroValue84
  t70 := Tryd.underlying83
  a70 := Tryd.isAgg83
  z70 := Tryd.sizeOf83
  v70 := Tryd.zeroValue83
  t72 := Tryd.underlying86
  a72 := Tryd.isAgg86
  z72 := Tryd.sizeOf86
  v72 := Tryd.zeroValue86
  t75 := Tryd.underlying88
  a75 := Tryd.isAgg88
  z75 := Tryd.sizeOf88
  v75 := Tryd.zeroValue88
  t164 := Tryd.underlying152
  a164 := Tryd.isAgg152
  z164 := Tryd.sizeOf152
  v164 := Tryd.zeroValue152 }
theorem Tryd.bs_extra : Builder.Extra Tryd.prog Tryd.bs_ren := {
  sizeBuilder := by kernel_rfl
  liesBuilder := by kernel_rfl
  t5 := Tryd.underlying5
  a5 := Tryd.isAgg5
  z5 := Tryd.sizeOf5
  v5 := Tryd.zeroValue5
  infoByte := by kernel_rfl
  cellsByte := by kernel_rfl
  sizeByte := by kernel_rfl
  neB5 := by decide }
theorem Tryd.bWriteString (B b : Nat) (bs : List Value) (s : ByteArray) (w : World) (h : Lib.IsBuilderF 86 5 B b bs w) (hlen : bs.length + s.size ≤ 140737488355328) (hBw : B ≤ w.heap.size) :
    Calls Tryd.prog 32 #[.pointer (some ⟨b, 0, none⟩), .string s] w fun e w' => e = .returned (.tuple #[.int .i64 s.size, .nilIface]) ∧ (Lib.BuilderAtF 86 5 B b (.pointer (some ⟨b, 0, none⟩)) (bs ++ Lib.strCells s) w' ∧ Below B w w' ∧ Lib.OthersKept 5 (some b) w w') := Any.Builder_WriteString_k Tryd.bs_lays Tryd.bs_extra B b bs s w h hlen hBw
end Go.Proofs
namespace Go.Proofs.YtioiphonajinmaaDoor
open Go.RowKit Go.Shelf
theorem gr_grow (w : World) (k : Nat) (os : Array Obj) : Below w.heap.size w (Go.Sort.grow (w.drewN k) os) := ⟨rfl, rfl, rfl, by simp [Go.Sort.grow], fun i hi => by simp [Go.Sort.grow]; rw [Array.getElem?_append_left (by simpa using hi)]⟩
theorem gr_eq {a b : ByteArray} (h : a.data.toList = b.data.toList) : a = b := by rw [← strOf_toList a, h, strOf_toList]
/-- the powers of ten -/
def PowR (w : World) : Prop := Lib.TabIs Tryd.prog w "internal/strconv.uint64pow10" .u64 Lib.pow10Tab
def itB (n : Int) : List UInt8 := Lib.itoa n
theorem itB_len (n : Int) (h0 : -9223372036854775808 ≤ n) (h1 : n ≤ 9223372036854775807) : (itB n).length ≤ 21 := Lib.itoa_length_le n h0 h1
theorem itoa_any (n : Int) (w0 w : World) (hP : PowR w0) (hb : Below w0.heap.size w0 w) (h0 : -9223372036854775808 ≤ n) (h1 : n ≤ 9223372036854775807) :
    Calls Tryd.prog 35 #[.int .i64 n] w fun e w' => e = .returned (.string (strOf (itB n))) ∧ Below w.heap.size w w' := by
  refine (Tryd.strconv_Itoa n h0 h1 w (Lib.tabBelow_of_tabIs hP _ hb)).mono ?_
  rintro e w1 ⟨rfl, k, os, rfl⟩
  exact ⟨rfl, gr_grow w k os⟩
/-- a builder is left where only rows of another type are written -/
theorem rowF_keep {w w' : World} {base n : Nat} {v : Value} {xs : List Value} (h : w.ownsRowF base 5 1 v n xs) (hk : ∀ (k : Nat) (c : Array Value) (t : TypeId) (z : Nat × Nat), t ≠ 9 → w.heap[k]? = some (.cells c t z) → w'.heap[k]? = some (.cells c t z)) : w'.ownsRowF base 5 1 v n xs := by
  refine ⟨h.1, ?_⟩
  rcases h.2 with q | ⟨g, cap, cur, fz, q, hg, hblk, r⟩
  · exact .inl q
  · exact .inr ⟨g, cap, cur, fz, q, hg, hk g cur 5 fz (by decide) hblk, r⟩
theorem bldF_keep {B b : Nat} {bs : List Value} {w w' : World} (h : Lib.IsBuilderF 86 5 B b bs w) (hk : ∀ (k : Nat) (c : Array Value) (t : TypeId) (z : Nat × Nat), t ≠ 9 → w.heap[k]? = some (.cells c t z) → w'.heap[k]? = some (.cells c t z)) : Lib.IsBuilderF 86 5 B b bs w' := by
  rcases h with ⟨hB, v, h1, h2, h3⟩ | ⟨hB, v, h1, h2, h3⟩
  · exact .inl ⟨hB, v, hk _ _ _ _ (by decide) h1, rowF_keep h2 hk, h3⟩
  · exact .inr ⟨hB, v, hk _ _ _ _ (by decide) h1, rowF_keep h2 hk, h3⟩
set_option linter.unusedVariables false in
theorem below_keeps {w w' : World} (hb : Below w.heap.size w w') : ∀ (k : Nat) (c : Array Value) (t : TypeId) (z : Nat × Nat), t ≠ 9 → w.heap[k]? = some (.cells c t z) → w'.heap[k]? = some (.cells c t z) := fun k c t z _ h => (hb.block k (blk_lt h)).trans h
theorem bldF_below {B b : Nat} {bs : List Value} {w w' : World} (h : Lib.IsBuilderF 86 5 B b bs w) (hb : Below w.heap.size w w') : Lib.IsBuilderF 86 5 B b bs w' := bldF_keep h (below_keeps hb)
/-- a line of words -/
def lnB (ws : List (List UInt8)) : List UInt8 := Lib.join ws [32] ++ [10]
set_option maxHeartbeats 4000000 in
set_option maxRecDepth 100000 in
set_option linter.unusedSimpArgs false in
set_option linter.unusedVariables false in
theorem line_any (B b : Nat) (l : List UInt8) (ws : List (List UInt8)) (bk o c : Nat) (w : World) (hI : Lib.IsBuilderF 86 5 B b (Lib.byteCells l) w) (hB : B ≤ w.heap.size)
    (hc : ∀ (j : Nat) (h : j < ws.length), w.cell? ⟨bk, o + j, none⟩ = some (.string (strOf ws[j]))) (hbk : bk < w.heap.size) (hcap : ws.length ≤ c) (hn : ws.length ≤ 1000000) (hl : l.length ≤ 1000000000) (hj : (lnB ws).length ≤ 1000000000) :
    Calls Tryd.prog 31 #[.slice (some ⟨bk, o, none⟩) ws.length c, .pointer (some ⟨b, 0, none⟩)] w fun e w' => e = .returned (.tuple #[]) ∧ Lib.IsBuilderF 86 5 B b (Lib.byteCells (l ++ lnB ws)) w' ∧ Below B w w' ∧ Lib.OthersKept 5 (some b) w w' := by
  have hm : (ws.map strOf).map (·.data.toList) = ws := by
    rw [List.map_map]
    refine (List.map_congr_left fun a _ => ?_).trans (List.map_id ws)
    simp [strOf_data]
  have JN := Tryd.strings_Join bk o c (ws.map strOf) ⟨#[32]⟩ w (fun j x hx => by
    rw [List.getElem?_map] at hx
    obtain ⟨y, hy, rfl⟩ := Option.map_eq_some_iff.1 hx
    obtain ⟨hj', e⟩ := List.getElem?_eq_some_iff.1 hy
    rw [hc j hj', e]) hbk (by rw [List.length_map]; omega) (by rw [List.length_map]; exact hcap) (by
    rw [hm]
    unfold lnB at hj
    rw [List.length_append] at hj
    exact Nat.le_trans (Nat.le_trans (Nat.le_add_right _ _) hj) (by decide))
  rw [hm, List.length_map, show (⟨#[32]⟩ : ByteArray).data.toList = [32] from rfl] at JN
  have HI := hide hI
  have hsz : (strOf (Lib.join ws [32])).size ≤ 1000000000 := by
    rw [strOf_size]
    unfold lnB at hj
    rw [List.length_append] at hj
    omega
  have HE : Hid (strOf (Lib.join ws [32]) ++ ⟨#[10]⟩ = strOf (lnB ws)) := by
    show _ = _
    apply gr_eq
    rw [ByteArray.data_append, Array.toList_append, strOf_data, strOf_data]
    rfl
  replace JN : Hid (Calls Tryd.prog 33 #[.slice (some ⟨bk, o, none⟩) ws.length c, .string ⟨#[32]⟩] w fun e w' => e = .returned (.string (strOf (Lib.join ws [32]))) ∧ Below w.heap.size w w') := JN
  have WS := hide (fun w' (hb : Below w.heap.size w w') => Tryd.bWriteString B b (Lib.byteCells l) (strOf (lnB ws)) w' (bldF_below HI.out hb) (by rw [Lib.byteCells_length, strOf_size]; omega) (Nat.le_trans hB hb.size))
  have HC : Hid (Lib.byteCells l ++ Lib.strCells (strOf (lnB ws)) = Lib.byteCells (l ++ lnB ws)) := by
    show _ = _
    simp [Lib.byteCells, Lib.strCells, strOf]
  clear hI hc hm
  generalize strOf (Lib.join ws [32]) = J at *
  generalize strOf (lnB ws) = LN at *
  go_enter Tryd.func31, Tryd.ntmps31
  go_wp2_with fail
  refine Calls.mono JN.out ?_
  rintro e w1 ⟨rfl, hb⟩
  have B1 := hide hb
  clear hb
  go_wp2_with fail
  rw [HE.out]
  refine Calls.mono (WS.out w1 B1.out) ?_
  rintro e w2 ⟨rfl, h1, h2, h3⟩
  rw [HC.out] at h1
  have F1 : Hid (Lib.IsBuilderF 86 5 B b (Lib.byteCells (l ++ lnB ws)) w2) := .inr h1
  have F2 : Hid (Below B w w2) := (B1.out.mono hB).trans h2
  have F3 : Hid (Lib.OthersKept 5 (some b) w w2) := fun k o hk hn ho => h3 k o ((B1.out.block k (blk_lt hk)).trans hk) hn ho
  clear h1 h2 h3
  go_wp2_with fail
  go_end0
  exact ⟨rfl, F1.out, F2.out, F3.out⟩
end Go.Proofs.YtioiphonajinmaaDoor
namespace Go.Proofs.YtioiphonajinmaaDoor
open Go.RowKit
/-- the settings' words -/
def swA : List (List UInt8) := [[114, 101, 112, 108, 105, 99, 97, 115], [119, 105, 100, 116, 104], [99, 104, 117, 110, 107, 115], [114, 101, 116, 97, 105, 110], [98, 108, 111, 99, 107], [114, 97, 116, 101], [112, 101, 114], [98, 117, 114, 115, 116], [116, 114, 105, 101, 115], [98, 97, 115, 101], [109, 111, 115, 116], [113, 117, 111, 116, 97], [114, 111, 111, 109], [100, 101, 112, 111, 116], [114, 101, 115, 101, 110, 100], [108, 105, 109, 105, 116], [112, 97, 116, 105, 101, 110, 99, 101], [103, 101, 116, 119, 97, 105, 116], [115, 116, 114, 105, 107, 101, 115], [98, 97, 110], [104, 111, 109, 101]]
def swd (i : Nat) : List UInt8 := swA[i]?.getD []
theorem swd_len : ∀ i, (swd i).length ≤ 8 := by
  intro i
  by_cases h : i < 21
  · have : ∀ m : Fin 21, (swd m.1).length ≤ 8 := by decide +kernel
    exact this ⟨i, h⟩
  · unfold swd
    rw [List.getElem?_eq_none (by simp [swA]; omega)]
    exact Nat.zero_le _
set_option maxRecDepth 100000 in
theorem setA_word (B i : Nat) (h : i < 21) : (setA B)[i * 4]? = some (.string (strOf (swd i))) := by
  have : i = 0 ∨ i = 1 ∨ i = 2 ∨ i = 3 ∨ i = 4 ∨ i = 5 ∨ i = 6 ∨ i = 7 ∨ i = 8 ∨ i = 9 ∨ i = 10 ∨ i = 11 ∨ i = 12 ∨ i = 13 ∨ i = 14 ∨ i = 15 ∨ i = 16 ∨ i = 17 ∨ i = 18 ∨ i = 19 ∨ i = 20 := by omega
  rcases this with rfl | rfl | rfl | rfl | rfl | rfl | rfl | rfl | rfl | rfl | rfl | rfl | rfl | rfl | rfl | rfl | rfl | rfl | rfl | rfl | rfl <;> rfl
def storeW : List UInt8 := [115, 116, 111, 114, 101]
def nodeW : List UInt8 := [110, 111, 100, 101]
def zoneW : List UInt8 := [122, 111, 110, 101]
def partsW : List UInt8 := [112, 97, 114, 116, 115]
/-- the settings' lines -/
def prS (x : Nat → Int) (i : Nat) : List UInt8 := (List.range i).flatMap fun j => lnB [swd j, itB (x j)]
theorem prS_succ (x : Nat → Int) (i : Nat) : prS x (i + 1) = prS x i ++ lnB [swd i, itB (x i)] := by
  unfold prS
  rw [List.range_succ, List.flatMap_append]
  simp
/-- a node's words -/
def ndW (j : Nat) (n : ND) : List (List UInt8) := [nodeW, itB (j : Int), zoneW, itB n.z, partsW] ++ n.ps.map itB
/-- the nodes' lines -/
def prN (ns : List ND) (i : Nat) : List UInt8 := (List.range i).flatMap fun j => lnB (ndW j (ns[j]?.getD default))
theorem prN_succ {ns : List ND} {i : Nat} (h : i < ns.length) : prN ns (i + 1) = prN ns i ++ lnB (ndW i ns[i]) := by
  unfold prN
  rw [List.range_succ, List.flatMap_append]
  simp [h]
def prT (st : ByteArray) (x : Nat → Int) (ns : List ND) : List UInt8 := lnB [storeW, st.data.toList] ++ prS x 21 ++ prN ns ns.length
noncomputable def prV (st : ByteArray) (x : Nat → Int) (ns : List ND) : List UInt8 := if errP st x ns = 0 then prT st x ns else []
theorem joinTail_len (m : Nat) : ∀ (r : List (List UInt8)), (∀ a ∈ r, a.length ≤ m) → (Lib.joinTail [32] r).length ≤ (m + 1) * r.length
  | [], _ => by simp [Lib.joinTail]
  | a :: r, h => by
    have ih := joinTail_len m r (fun b hb => h b (List.mem_cons_of_mem _ hb))
    have ha := h a (List.mem_cons_self ..)
    unfold Lib.joinTail at *
    simp only [List.map_cons, List.flatten_cons, List.length_append, List.length_cons, List.length_nil, Nat.mul_succ]
    omega
theorem lnB_len (m : Nat) (ws : List (List UInt8)) (h : ∀ a ∈ ws, a.length ≤ m) : (lnB ws).length ≤ (m + 1) * ws.length + 1 := by
  unfold lnB
  rw [List.length_append, List.length_singleton]
  cases ws with
  | nil => rw [Lib.join_nil]; simp
  | cons a r =>
    rw [Lib.join_cons, List.length_append, List.length_cons, Nat.mul_succ]
    have h1 := joinTail_len m r (fun b hb => h b (List.mem_cons_of_mem _ hb))
    have h2 := h a (List.mem_cons_self ..)
    omega
def i64R (n : Int) : Prop := -9223372036854775808 ≤ n ∧ n ≤ 9223372036854775807
theorem itB_len2 {n : Int} (h : i64R n) : (itB n).length ≤ 40 := Nat.le_trans (itB_len n h.1 h.2) (by omega)
theorem prS_len {x : Nat → Int} (h : ∀ i, i < 21 → i64R (x i)) (i : Nat) (hi : i ≤ 21) : (prS x i).length ≤ 83 * i := by
  induction i with
  | zero => simp [prS]
  | succ i ih =>
    rw [prS_succ, List.length_append]
    have h1 := ih (by omega)
    have h2 := lnB_len 40 [swd i, itB (x i)] (fun a ha => by
      simp at ha
      rcases ha with rfl | rfl
      · have := swd_len i; omega
      · exact itB_len2 (h i (by omega)))
    simp only [List.length_cons, List.length_nil] at h2
    omega
theorem ndW_len {j : Nat} {n : ND} (hj : j ≤ 16) (hz : i64R n.z) (hp : ∀ p ∈ n.ps, i64R p) : ∀ a ∈ ndW j n, a.length ≤ 40 := by
  intro a ha
  unfold ndW at ha
  rcases List.mem_append.1 ha with ha | ha
  · simp at ha
    rcases ha with rfl | rfl | rfl | rfl | rfl
    · decide
    · exact itB_len2 ⟨by omega, by omega⟩
    · decide
    · exact itB_len2 hz
    · decide
  · obtain ⟨p, hp', rfl⟩ := List.mem_map.1 ha
    exact itB_len2 (hp p hp')
theorem prN_len {ns : List ND} (h16 : ns.length ≤ 16) (hz : ∀ n ∈ ns, i64R n.z) (hp : ∀ n ∈ ns, ∀ p ∈ n.ps, i64R p) (hl : ∀ n ∈ ns, n.ps.length ≤ 64) (i : Nat) (hi : i ≤ ns.length) : (prN ns i).length ≤ 3000 * i := by
  induction i with
  | zero => simp [prN]
  | succ i ih =>
    rw [prN_succ (by omega), List.length_append]
    have h1 := ih (by omega)
    have hm : ns[i] ∈ ns := List.getElem_mem _
    have h2 := lnB_len 40 (ndW i ns[i]) (ndW_len (by omega) (hz _ hm) (hp _ hm))
    have h3 : (ndW i ns[i]).length ≤ 69 := by
      unfold ndW
      rw [List.length_append, List.length_map]
      have := hl _ hm
      simp only [List.length_cons, List.length_nil]
      omega
    omega
/-- what a valid definition is, for its text -/
structure PrOk (st : ByteArray) (x : Nat → Int) (ns : List ND) : Prop where
  s : st.size ≤ 1000
  x : ∀ i, i < 21 → i64R (x i)
  n : ns.length ≤ 16
  z : ∀ n ∈ ns, i64R n.z
  p : ∀ n ∈ ns, ∀ p ∈ n.ps, i64R p
  l : ∀ n ∈ ns, n.ps.length ≤ 64
theorem pr_ok {st : ByteArray} {x : Nat → Int} {ns : List ND} (h : errP st x ns = 0) : PrOk st x ns := by
  obtain ⟨hnm, hsf, hnf, hdl, _, _⟩ := errP_all h
  have n16 := nfP_len hnf
  have hfl : ∀ n ∈ ns, n.ps.length ≤ (flat ns).length ∧ ∀ p ∈ n.ps, p ∈ flat ns := fun n hn => by
    obtain ⟨q, hq, rfl⟩ := List.getElem_of_mem hn
    have e : flat ns = flat (ns.take q) ++ (ns[q].ps ++ flat (ns.drop (q + 1))) := by
      rw [← flat_cons, ← flat_append, ← List.drop_eq_getElem_cons hq, List.take_append_drop]
    rw [e]
    refine ⟨by rw [List.length_append, List.length_append]; omega, fun p hp => by simp [hp]⟩
  refine ⟨by unfold nmP at hnm; simp only [Bool.and_eq_true, decide_eq_true_eq] at hnm; omega, fun i hi => ?_, n16.2, fun n hn => ?_, fun n hn p hp => ?_, fun n hn => ?_⟩
  · have := sfP_lim hsf i (by omega)
    have h1 : ∀ m : Fin 21, 0 ≤ loS m.1 ∧ hiS m.1 ≤ 1073741824 := by decide +kernel
    have h2 := h1 ⟨i, hi⟩
    exact ⟨by have := this.1; dsimp only at h2; omega, by have := this.2; dsimp only at h2; omega⟩
  · unfold nfP at hnf
    simp only [Bool.and_eq_true] at hnf
    have := List.all_eq_true.1 hnf.2 n hn
    unfold zOk at this
    simp only [Bool.and_eq_true, decide_eq_true_eq] at this
    exact ⟨by omega, by omega⟩
  · have := hdl.all.1 p ((hfl n hn).2 p hp)
    have := hdl.p2
    exact ⟨by omega, by omega⟩
  · have := (hfl n hn).1
    have := hdl.p2
    omega
end Go.Proofs.YtioiphonajinmaaDoor
