import Derived.Shelf.Strings.OnBuilder
import Derived.Shelf.Strconv.Itoa3
import Derived.Shelf.Strings.BuilderF
import Derived.Test.YtanlnelfbfjelaaDoorGGcShelf
import Derived.Test.YtanlnelfbfjelaaDoorGGtMem
import Derived.Test.YtanlnelfbfjelaaDoorProg
import Derived.Shelf.Strings.BuilderK
import Derived.Test.YtanlnelfbfjelaaDoorGGcChk
import Derived.Test.YtanlnelfbfjelaaDoorGDgPlain
import Derived.Lib.ItoaLen
import Derived.Lib.AppendIntMem
import Derived.Test.YtanlnelfbfjelaaDoorGGnPure
import Derived.Test.YtanlnelfbfjelaaDoorGGmMade
import Derived.Test.YtanlnelfbfjelaaDoorGGcTwin2
import Derived.Test.YtanlnelfbfjelaaDoorGGcSame
namespace Go.Proofs
open Go.Shelf Go.RowKit
def Tryd.lays156_ren : Go.Shelf.Ren := ⟨fun | 156 => 27 | 165 => 43 | 166 => 26 | 169 => 30 | 240 => 42 | 241 => 62 | 276 => 61 | 277 => 71 | n => n, fun | 31 => 40 | 9 => 9 | 3 => 3 | 4 => 4 | 0 => 0 | 20 => 20 | 72 => 66 | 76 => 69 | 70 => 63 | 37 => 64 | 75 => 68 | 127 => 93 | 164 => 106 | 5 => 5 | 80 => 80 | n => n, fun | n => n⟩
theorem Tryd.lays156 : Go.Proofs.Lays.n156 Tryd.prog Tryd.lays156_ren := {
  mixed := by kernel_rfl
  f156 := Tryd.func27.trans (congrArg some (by kernel_rfl))
  f165 := Tryd.func43.trans (congrArg some (by kernel_rfl))
  f166 := Tryd.func26.trans (congrArg some (by kernel_rfl))
  f169 := Tryd.func30.trans (congrArg some (by kernel_rfl))
  f240 := Tryd.func42.trans (congrArg some (by kernel_rfl))
  f241 := Tryd.func62.trans (congrArg some (by kernel_rfl))
  f276 := Tryd.func61.trans (congrArg some (by kernel_rfl))
  f277 := Tryd.func71.trans (congrArg some (by kernel_rfl))
  t0 := Tryd.underlying0
  a0 := Tryd.isAgg0
  z0 := Tryd.sizeOf0
  v0 := Tryd.zeroValue0
  t3 := Tryd.underlying3
  a3 := Tryd.isAgg3
  z3 := Tryd.sizeOf3
  v3 := Tryd.zeroValue3
  t4 := Tryd.underlying4
  a4 := Tryd.isAgg4
  z4 := Tryd.sizeOf4
  v4 := Tryd.zeroValue4
  t9 := Tryd.underlying9
  a9 := Tryd.isAgg9
  z9 := Tryd.sizeOf9
  v9 := Tryd.zeroValue9
  t20 := Tryd.underlying20
  a20 := Tryd.isAgg20
  z20 := Tryd.sizeOf20
  v20 := Tryd.zeroValue20
  t31 := Tryd.underlying40
  a31 := Tryd.isAgg40
  z31 := Tryd.sizeOf40
  v31 := Tryd.zeroValue40
  t37 := Tryd.underlying64
  a37 := Tryd.isAgg64
  z37 := Tryd.sizeOf64
  v37 := Tryd.zeroValue64
  t70 := Tryd.underlying63
  a70 := Tryd.isAgg63
  z70 := Tryd.sizeOf63
  v70 := Tryd.zeroValue63
  t72 := Tryd.underlying66
  a72 := Tryd.isAgg66
  z72 := Tryd.sizeOf66
  v72 := Tryd.zeroValue66
  t75 := Tryd.underlying68
  a75 := Tryd.isAgg68
  z75 := Tryd.sizeOf68
  v75 := Tryd.zeroValue68
  t76 := Tryd.underlying69
  a76 := Tryd.isAgg69
  z76 := Tryd.sizeOf69
  v76 := Tryd.zeroValue69
  t127 := Tryd.underlying93
  a127 := Tryd.isAgg93
  z127 := Tryd.sizeOf93
  v127 := Tryd.zeroValue93
  t164 := Tryd.underlying106
  a164 := Tryd.isAgg106
  z164 := Tryd.sizeOf106
  v164 := Tryd.zeroValue106 }
theorem Tryd.Builder_Extra_156 : Builder.Extra Tryd.prog Tryd.lays156_ren := {
  sizeBuilder := by kernel_rfl
  liesBuilder := by kernel_rfl
  t5 := Tryd.underlying5
  a5 := Tryd.isAgg5
  z5 := Tryd.sizeOf5
  v5 := Tryd.zeroValue5
  infoByte := by kernel_rfl
  cellsByte := by kernel_rfl
  sizeByte := by kernel_rfl
  neB5 := by decide }
open Go.RowKit in
theorem Tryd.strings_Join (bk o c : Nat) (xs : List ByteArray) (sep : ByteArray) (w : World) (hcells : ∀ (j : Nat) x, xs[j]? = some x → w.cell? ⟨bk, o + j, none⟩ = some (.string x)) (hbk : bk < w.heap.size) (hN : xs.length ≤ 140737488355328) (hcap : xs.length ≤ c) (hlen : (Lib.join (xs.map (·.data.toList)) sep.data.toList).length ≤ 140737488355328) :
    Calls Tryd.prog 27 #[.slice (some ⟨bk, o, none⟩) xs.length c, .string sep] w fun e w' => e = .returned (.string ⟨(Lib.join (xs.map (·.data.toList)) sep.data.toList).toArray⟩) ∧ Below w.heap.size w w' := Any.strings_Join Tryd.lays156 Tryd.Builder_Extra_156 bk o c xs sep w hcells hbk hN hcap hlen
def Tryd.laysM171_ren : Go.Shelf.Ren := ⟨fun | 171 => 29 | 243 => 44 | 246 => 63 | 283 => 72 | 284 => 73 | 285 => 74 | 286 => 75 | 129 => 84 | 317 => 83 | 318 => 85 | 319 => 86 | 320 => 87 | 337 => 92 | 338 => 93 | n => n, fun | 3 => 3 | 9 => 9 | 2 => 2 | 4 => 4 | 171 => 116 | 0 => 0 | 53 => 117 | 37 => 64 | 5 => 5 | 173 => 120 | 212 => 127 | 51 => 128 | 20 => 20 | 213 => 129 | 46 => 123 | 232 => 142 | 233 => 143 | n => n, fun | 17 => 3 | 18 => 6 | 19 => 7 | n => n⟩
theorem Tryd.laysM171 : Go.Proofs.LaysM.n171 Tryd.prog Tryd.laysM171_ren := {
  mixed := by kernel_rfl
  f129 := Tryd.func84.trans (congrArg some (by kernel_rfl))
  f171 := Tryd.func29.trans (congrArg some (by kernel_rfl))
  f243 := Tryd.func44.trans (congrArg some (by kernel_rfl))
  f246 := Tryd.func63.trans (congrArg some (by kernel_rfl))
  f283 := Tryd.func72.trans (congrArg some (by kernel_rfl))
  f284 := Tryd.func73.trans (congrArg some (by kernel_rfl))
  f285 := Tryd.func74.trans (congrArg some (by kernel_rfl))
  f286 := Tryd.func75.trans (congrArg some (by kernel_rfl))
  f317 := Tryd.func83.trans (congrArg some (by kernel_rfl))
  f318 := Tryd.func85.trans (congrArg some (by kernel_rfl))
  f319 := Tryd.func86.trans (congrArg some (by kernel_rfl))
  f320 := Tryd.func87.trans (congrArg some (by kernel_rfl))
  f337 := Tryd.func92.trans (congrArg some (by kernel_rfl))
  f338 := Tryd.func93.trans (congrArg some (by kernel_rfl))
  t0 := Tryd.underlying0
  a0 := Tryd.isAgg0
  z0 := Tryd.sizeOf0
  v0 := Tryd.zeroValue0
  t2 := Tryd.underlying2
  a2 := Tryd.isAgg2
  z2 := Tryd.sizeOf2
  v2 := Tryd.zeroValue2
  t3 := Tryd.underlying3
  a3 := Tryd.isAgg3
  z3 := Tryd.sizeOf3
  v3 := Tryd.zeroValue3
  t4 := Tryd.underlying4
  a4 := Tryd.isAgg4
  z4 := Tryd.sizeOf4
  v4 := Tryd.zeroValue4
  t5 := Tryd.underlying5
  a5 := Tryd.isAgg5
  z5 := Tryd.sizeOf5
  v5 := Tryd.zeroValue5
  t9 := Tryd.underlying9
  a9 := Tryd.isAgg9
  z9 := Tryd.sizeOf9
  v9 := Tryd.zeroValue9
  t20 := Tryd.underlying20
  a20 := Tryd.isAgg20
  z20 := Tryd.sizeOf20
  v20 := Tryd.zeroValue20
  t37 := Tryd.underlying64
  a37 := Tryd.isAgg64
  z37 := Tryd.sizeOf64
  v37 := Tryd.zeroValue64
  t46 := Tryd.underlying123
  a46 := Tryd.isAgg123
  z46 := Tryd.sizeOf123
  v46 := Tryd.zeroValue123
  t51 := Tryd.underlying128
  a51 := Tryd.isAgg128
  z51 := Tryd.sizeOf128
  v51 := Tryd.zeroValue128
  t53 := Tryd.underlying117
  a53 := Tryd.isAgg117
  z53 := Tryd.sizeOf117
  v53 := Tryd.zeroValue117
  t171 := Tryd.underlying116
  a171 := Tryd.isAgg116
  z171 := Tryd.sizeOf116
  v171 := Tryd.zeroValue116
  t173 := Tryd.underlying120
  a173 := Tryd.isAgg120
  z173 := Tryd.sizeOf120
  v173 := Tryd.zeroValue120
  t212 := Tryd.underlying127
  a212 := Tryd.isAgg127
  z212 := Tryd.sizeOf127
  v212 := Tryd.zeroValue127
  t213 := Tryd.underlying129
  a213 := Tryd.isAgg129
  z213 := Tryd.sizeOf129
  t232 := Tryd.underlying142
  a232 := Tryd.isAgg142
  z232 := Tryd.sizeOf142
  v232 := Tryd.zeroValue142
  t233 := Tryd.underlying143
  a233 := Tryd.isAgg143
  z233 := Tryd.sizeOf143
  v233 := Tryd.zeroValue143
  g17 := by kernel_rfl
  g18 := by kernel_rfl
  g19 := by kernel_rfl
  i0 := by kernel_rfl
  i2 := by kernel_rfl
  i3 := by kernel_rfl
  i4 := by kernel_rfl
  i5 := by kernel_rfl
  i9 := by kernel_rfl
  i20 := by kernel_rfl
  i37 := by kernel_rfl
  i46 := by kernel_rfl
  i51 := by kernel_rfl
  i53 := by kernel_rfl
  i171 := by kernel_rfl
  i173 := by kernel_rfl
  i212 := by kernel_rfl
  i232 := by kernel_rfl
  i233 := by kernel_rfl
  m17 := by kernel_rfl
  m18 := by kernel_rfl
  m19 := by kernel_rfl }
open Go.RowKit Go.Sort Go.Lib in
theorem Tryd.strconv_Itoa (n : Int) (h0 : -9223372036854775808 ≤ n) (h1 : n ≤ 9223372036854775807) (w : World) (htab : Lib.TabIs Tryd.prog w "internal/strconv.uint64pow10" .u64 Lib.pow10Tab) :
    Calls Tryd.prog 29 #[.int .i64 n] w fun e w' => e = .returned (.string ⟨(Lib.itoa n).toArray⟩) ∧ ∃ k os, w' = grow (w.drewN k) os := Any.strconv_Itoa Tryd.laysM171 n h0 h1 w htab
def Tryd.lays169_ren : Go.Shelf.Ren := ⟨fun | 169 => 30 | n => n, fun | 70 => 63 | 9 => 9 | 0 => 0 | 72 => 66 | 37 => 64 | 127 => 93 | 3 => 3 | 5 => 5 | n => n, fun | n => n⟩
theorem Tryd.lays169 : Go.Proofs.Lays.n169 Tryd.prog Tryd.lays169_ren := {
  mixed := by kernel_rfl
  f169 := Tryd.func30.trans (congrArg some (by kernel_rfl))
  t0 := Tryd.underlying0
  a0 := Tryd.isAgg0
  z0 := Tryd.sizeOf0
  v0 := Tryd.zeroValue0
  t3 := Tryd.underlying3
  a3 := Tryd.isAgg3
  z3 := Tryd.sizeOf3
  v3 := Tryd.zeroValue3
  t9 := Tryd.underlying9
  a9 := Tryd.isAgg9
  z9 := Tryd.sizeOf9
  v9 := Tryd.zeroValue9
  t37 := Tryd.underlying64
  a37 := Tryd.isAgg64
  z37 := Tryd.sizeOf64
  v37 := Tryd.zeroValue64
  t70 := Tryd.underlying63
  a70 := Tryd.isAgg63
  z70 := Tryd.sizeOf63
  v70 := Tryd.zeroValue63
  t72 := Tryd.underlying66
  a72 := Tryd.isAgg66
  z72 := Tryd.sizeOf66
  v72 := Tryd.zeroValue66
  t127 := Tryd.underlying93
  a127 := Tryd.isAgg93
  z127 := Tryd.sizeOf93
  v127 := Tryd.zeroValue93 }
theorem Tryd.Builder_Extra_169 : Builder.Extra Tryd.prog Tryd.lays169_ren := {
  sizeBuilder := by kernel_rfl
  liesBuilder := by kernel_rfl
  t5 := Tryd.underlying5
  a5 := Tryd.isAgg5
  z5 := Tryd.sizeOf5
  v5 := Tryd.zeroValue5
  infoByte := by kernel_rfl
  cellsByte := by kernel_rfl
  sizeByte := by kernel_rfl
  neB5 := by decide }
open Go.RowKit in
theorem Tryd.Builder_String_any_f (B b : Nat) (l : List UInt8) (w : World) (h : Lib.IsBuilderF 66 5 B b (Lib.byteCells l) w) (hBw : B ≤ w.heap.size) :
    Calls Tryd.prog 30 #[.pointer (some ⟨b, 0, none⟩)] w fun e w' => e = .returned (.string ⟨l.toArray⟩) ∧ (Lib.IsBuilderF 66 5 B b (Lib.byteCells l) w' ∧ Below B w w') := Any.Builder_String_any_f Tryd.lays169 Tryd.Builder_Extra_169 B b l w h hBw
end Go.Proofs
namespace Go.Proofs
open Go.Shelf Go.RowKit
def Tryd.bs_ren : Go.Shelf.Ren := ⟨fun | 166 => 26 | 240 => 42 | 276 => 61 | n => n, fun | 9 => 9 | 3 => 3 | 4 => 4 | 20 => 20 | 0 => 0 | 72 => 66 | 70 => 63 | 37 => 64 | 75 => 68 | 80 => 80 | 164 => 106 | 5 => 5 | n => n, fun | n => n⟩
theorem Tryd.bs_lays : Go.Proofs.Lays.n166 Tryd.prog Tryd.bs_ren := {
  mixed := by kernel_rfl
  f166 := Tryd.func26.trans (congrArg some (by kernel_rfl))
  f240 := Tryd.func42.trans (congrArg some (by kernel_rfl))
  f276 := Tryd.func61.trans (congrArg some (by kernel_rfl))
  t0 := Tryd.underlying0
  a0 := Tryd.isAgg0
  z0 := Tryd.sizeOf0
  v0 := Tryd.zeroValue0
  t3 := Tryd.underlying3
  a3 := Tryd.isAgg3
  z3 := Tryd.sizeOf3
  v3 := Tryd.zeroValue3
  t4 := Tryd.underlying4
  a4 := Tryd.isAgg4
  z4 := Tryd.sizeOf4
  v4 := Tryd.zeroValue4
  t9 := Tryd.underlying9
  a9 := Tryd.isAgg9
  z9 := Tryd.sizeOf9
  v9 := Tryd.zeroValue9
  t20 := Tryd.underlying20
  a20 := Tryd.isAgg20
  z20 := Tryd.sizeOf20
  v20 := Tryd.zeroValue20
  t37 := Tryd.underlying64
  a37 := Tryd.isAgg64
  z37 := Tryd.sizeOf64
  v37 := Tryd.zeroValue64
  t70 := Tryd.underlying63
  a70 := Tryd.isAgg63
  z70 := Tryd.sizeOf63
  v70 := Tryd.zeroValue63
  t72 := Tryd.underlying66
  a72 := Tryd.isAgg66
  z72 := Tryd.sizeOf66
  v72 := Tryd.zeroValue66
  t75 := Tryd.underlying68
  a75 := Tryd.isAgg68
  z75 := Tryd.sizeOf68
  v75 := Tryd.zeroValue68
  t164 := Tryd.underlying106
  a164 := Tryd.isAgg106
  z164 := Tryd.sizeOf106
  v164 := Tryd.zeroValue106 }
theorem Tryd.bs_extra : Builder.Extra Tryd.prog Tryd.bs_ren := {
  sizeBuilder := by kernel_rfl
  liesBuilder := by kernel_rfl
  t5 := Tryd.underlying5
  a5 := Tryd.isAgg5
  z5 := Tryd.sizeOf5
  v5 := Tryd.zeroValue5
  infoByte := by kernel_rfl
  cellsByte := by kernel_rfl
  sizeByte := by kernel_rfl
  neB5 := by decide }
theorem Tryd.bWriteString (B b : Nat) (bs : List Value) (s : ByteArray) (w : World) (h : Lib.IsBuilderF 66 5 B b bs w) (hlen : bs.length + s.size ≤ 140737488355328) (hBw : B ≤ w.heap.size) :
    Calls Tryd.prog 26 #[.pointer (some ⟨b, 0, none⟩), .string s] w fun e w' => e = .returned (.tuple #[.int .i64 s.size, .nilIface]) ∧ (Lib.BuilderAtF 66 5 B b (.pointer (some ⟨b, 0, none⟩)) (bs ++ Lib.strCells s) w' ∧ Below B w w' ∧ Lib.OthersKept 5 (some b) w w') := Any.Builder_WriteString_k Tryd.bs_lays Tryd.bs_extra B b bs s w h hlen hBw
end Go.Proofs
namespace Go.Proofs.YtanlnelfbfjelaaDoor
open Go.RowKit Go.Shelf
theorem gr_grow (w : World) (k : Nat) (os : Array Obj) : Below w.heap.size w (Go.Sort.grow (w.drewN k) os) := ⟨rfl, rfl, rfl, by simp [Go.Sort.grow], fun i hi => by simp [Go.Sort.grow]; rw [Array.getElem?_append_left (by simpa using hi)]⟩
theorem gr_eq {a b : ByteArray} (h : a.data.toList = b.data.toList) : a = b := by rw [← strOf_toList a, h, strOf_toList]
/-- the powers of ten -/
def PowR (w : World) : Prop := Lib.TabIs Tryd.prog w "internal/strconv.uint64pow10" .u64 Lib.pow10Tab
def itB (n : Int) : List UInt8 := Lib.itoa n
theorem itB_len (n : Int) (h0 : -9223372036854775808 ≤ n) (h1 : n ≤ 9223372036854775807) : (itB n).length ≤ 21 := Lib.itoa_length_le n h0 h1
theorem itoa_any (n : Int) (w0 w : World) (hP : PowR w0) (hb : Below w0.heap.size w0 w) (h0 : -9223372036854775808 ≤ n) (h1 : n ≤ 9223372036854775807) :
    Calls Tryd.prog 29 #[.int .i64 n] w fun e w' => e = .returned (.string (strOf (itB n))) ∧ Below w.heap.size w w' := by
  refine (Tryd.strconv_Itoa n h0 h1 w (Lib.tabBelow_of_tabIs hP _ hb)).mono ?_
  rintro e w1 ⟨rfl, k, os, rfl⟩
  exact ⟨rfl, gr_grow w k os⟩
/-- a builder is left where only rows of another type are written -/
theorem rowF_keep {w w' : World} {base n : Nat} {v : Value} {xs : List Value} (h : w.ownsRowF base 5 1 v n xs) (hk : ∀ (k : Nat) (c : Array Value) (t : TypeId) (z : Nat × Nat), t ≠ 9 → w.heap[k]? = some (.cells c t z) → w'.heap[k]? = some (.cells c t z)) : w'.ownsRowF base 5 1 v n xs := by
  refine ⟨h.1, ?_⟩
  rcases h.2 with q | ⟨g, cap, cur, fz, q, hg, hblk, r⟩
  · exact .inl q
  · exact .inr ⟨g, cap, cur, fz, q, hg, hk g cur 5 fz (by decide) hblk, r⟩
theorem bldF_keep {B b : Nat} {bs : List Value} {w w' : World} (h : Lib.IsBuilderF 66 5 B b bs w) (hk : ∀ (k : Nat) (c : Array Value) (t : TypeId) (z : Nat × Nat), t ≠ 9 → w.heap[k]? = some (.cells c t z) → w'.heap[k]? = some (.cells c t z)) : Lib.IsBuilderF 66 5 B b bs w' := by
  rcases h with ⟨hB, v, h1, h2, h3⟩ | ⟨hB, v, h1, h2, h3⟩
  · exact .inl ⟨hB, v, hk _ _ _ _ (by decide) h1, rowF_keep h2 hk, h3⟩
  · exact .inr ⟨hB, v, hk _ _ _ _ (by decide) h1, rowF_keep h2 hk, h3⟩
set_option linter.unusedVariables false in
theorem below_keeps {w w' : World} (hb : Below w.heap.size w w') : ∀ (k : Nat) (c : Array Value) (t : TypeId) (z : Nat × Nat), t ≠ 9 → w.heap[k]? = some (.cells c t z) → w'.heap[k]? = some (.cells c t z) := fun k c t z _ h => (hb.block k (blk_lt h)).trans h
theorem bldF_below {B b : Nat} {bs : List Value} {w w' : World} (h : Lib.IsBuilderF 66 5 B b bs w) (hb : Below w.heap.size w w') : Lib.IsBuilderF 66 5 B b bs w' := bldF_keep h (below_keeps hb)
/-- a line of words -/
def lnB (ws : List (List UInt8)) : List UInt8 := Lib.join ws [32] ++ [10]
set_option maxHeartbeats 4000000 in
set_option maxRecDepth 100000 in
set_option linter.unusedSimpArgs false in
set_option linter.unusedVariables false in
theorem wline_any (B b : Nat) (l : List UInt8) (ws : List (List UInt8)) (bk o c : Nat) (w : World) (hI : Lib.IsBuilderF 66 5 B b (Lib.byteCells l) w) (hB : B ≤ w.heap.size)
    (hc : ∀ (j : Nat) (h : j < ws.length), w.cell? ⟨bk, o + j, none⟩ = some (.string (strOf ws[j]))) (hbk : bk < w.heap.size) (hcap : ws.length ≤ c) (hn : ws.length ≤ 1000000) (hl : l.length ≤ 1000000000) (hj : (lnB ws).length ≤ 1000000000) :
    Calls Tryd.prog 25 #[.slice (some ⟨bk, o, none⟩) ws.length c, .pointer (some ⟨b, 0, none⟩)] w fun e w' => e = .returned (.tuple #[]) ∧ Lib.IsBuilderF 66 5 B b (Lib.byteCells (l ++ lnB ws)) w' ∧ Below B w w' ∧ Lib.OthersKept 5 (some b) w w' := by
  have hm : (ws.map strOf).map (·.data.toList) = ws := by
    rw [List.map_map]
    refine (List.map_congr_left fun a _ => ?_).trans (List.map_id ws)
    simp [strOf_data]
  have JN := Tryd.strings_Join bk o c (ws.map strOf) ⟨#[32]⟩ w (fun j x hx => by
    rw [List.getElem?_map] at hx
    obtain ⟨y, hy, rfl⟩ := Option.map_eq_some_iff.1 hx
    obtain ⟨hj', e⟩ := List.getElem?_eq_some_iff.1 hy
    rw [hc j hj', e]) hbk (by rw [List.length_map]; omega) (by rw [List.length_map]; exact hcap) (by
    rw [hm]
    unfold lnB at hj
    rw [List.length_append] at hj
    exact Nat.le_trans (Nat.le_trans (Nat.le_add_right _ _) hj) (by decide))
  rw [hm, List.length_map, show (⟨#[32]⟩ : ByteArray).data.toList = [32] from rfl] at JN
  have HI := hide hI
  have hsz : (strOf (Lib.join ws [32])).size ≤ 1000000000 := by
    rw [strOf_size]
    unfold lnB at hj
    rw [List.length_append] at hj
    omega
  have HE : Hid (strOf (Lib.join ws [32]) ++ ⟨#[10]⟩ = strOf (lnB ws)) := by
    show _ = _
    apply gr_eq
    rw [ByteArray.data_append, Array.toList_append, strOf_data, strOf_data]
    rfl
  replace JN : Hid (Calls Tryd.prog 27 #[.slice (some ⟨bk, o, none⟩) ws.length c, .string ⟨#[32]⟩] w fun e w' => e = .returned (.string (strOf (Lib.join ws [32]))) ∧ Below w.heap.size w w') := JN
  have WS := hide (fun w' (hb : Below w.heap.size w w') => Tryd.bWriteString B b (Lib.byteCells l) (strOf (lnB ws)) w' (bldF_below HI.out hb) (by rw [Lib.byteCells_length, strOf_size]; omega) (Nat.le_trans hB hb.size))
  have HC : Hid (Lib.byteCells l ++ Lib.strCells (strOf (lnB ws)) = Lib.byteCells (l ++ lnB ws)) := by
    show _ = _
    simp [Lib.byteCells, Lib.strCells, strOf]
  clear hI hc hm
  generalize strOf (Lib.join ws [32]) = J at *
  generalize strOf (lnB ws) = LN at *
  go_enter Tryd.func25, Tryd.ntmps25
  go_wp2_with fail
  refine Calls.mono JN.out ?_
  rintro e w1 ⟨rfl, hb⟩
  have B1 := hide hb
  clear hb
  go_wp2_with fail
  rw [HE.out]
  refine Calls.mono (WS.out w1 B1.out) ?_
  rintro e w2 ⟨rfl, h1, h2, h3⟩
  rw [HC.out] at h1
  have F1 : Hid (Lib.IsBuilderF 66 5 B b (Lib.byteCells (l ++ lnB ws)) w2) := .inr h1
  have F2 : Hid (Below B w w2) := (B1.out.mono hB).trans h2
  have F3 : Hid (Lib.OthersKept 5 (some b) w w2) := fun k o hk hn ho => h3 k o ((B1.out.block k (blk_lt hk)).trans hk) hn ho
  clear h1 h2 h3
  go_wp2_with fail
  go_end0
  exact ⟨rfl, F1.out, F2.out, F3.out⟩
end Go.Proofs.YtanlnelfbfjelaaDoor
namespace Go.Proofs.YtanlnelfbfjelaaDoor
open Go.RowKit
/-- names, as they lie there -/
def nmc (l : List (List UInt8)) : List Value := l.map fun s => .string (strOf s)
theorem nmc_len (l : List (List UInt8)) : (nmc l).length = l.length := by simp [nmc]
theorem nmc_append (a b : List (List UInt8)) : nmc (a ++ b) = nmc a ++ nmc b := by simp [nmc]
theorem nmc_at (l : List (List UInt8)) (q : Nat) (h : q < l.length) : (nmc l)[q]? = some (.string (strOf l[q])) := by simp [nmc, h]
theorem nmc_one (l : List (List UInt8)) : ∀ u ∈ nmc l, u.oneCell' = true := by
  intro u hu
  obtain ⟨s, _, rfl⟩ := List.mem_map.1 hu
  rfl
end Go.Proofs.YtanlnelfbfjelaaDoor
namespace Go.Proofs.YtanlnelfbfjelaaDoor
open Go.RowKit
/-- the settings' words -/
theorem swd_len : ∀ i, (swd i).length ≤ 8 := by
  intro i
  by_cases h : i < 21
  · have : ∀ m : Fin 21, (swd m.1).length ≤ 8 := by decide +kernel
    exact this ⟨i, h⟩
  · unfold swd
    rw [List.getElem?_eq_none (by simp [swA]; omega)]
    exact Nat.zero_le _
set_option maxRecDepth 100000 in
theorem setA_word (B i : Nat) (h : i < 21) : (setA B)[i * 4]? = some (.string (strOf (swd i))) := by
  have : i = 0 ∨ i = 1 ∨ i = 2 ∨ i = 3 ∨ i = 4 ∨ i = 5 ∨ i = 6 ∨ i = 7 ∨ i = 8 ∨ i = 9 ∨ i = 10 ∨ i = 11 ∨ i = 12 ∨ i = 13 ∨ i = 14 ∨ i = 15 ∨ i = 16 ∨ i = 17 ∨ i = 18 ∨ i = 19 ∨ i = 20 := by omega
  rcases this with rfl | rfl | rfl | rfl | rfl | rfl | rfl | rfl | rfl | rfl | rfl | rfl | rfl | rfl | rfl | rfl | rfl | rfl | rfl | rfl | rfl <;> rfl
/-- the settings' lines -/
def prS (x : Nat → Int) (i : Nat) : List UInt8 := (List.range i).flatMap fun j => lnB [swd j, itB (x j)]
theorem prS_succ (x : Nat → Int) (i : Nat) : prS x (i + 1) = prS x i ++ lnB [swd i, itB (x i)] := by
  unfold prS
  rw [List.range_succ, List.flatMap_append]
  simp
/-- a node's words -/
def ndW (j : Nat) (n : ND) : List (List UInt8) := [nodeW, itB (j : Int), zoneW, itB n.z, partsW] ++ n.ps.map itB
/-- the nodes' lines -/
def prN (ns : List ND) (i : Nat) : List UInt8 := (List.range i).flatMap fun j => lnB (ndW j (ns[j]?.getD default))
theorem prN_succ {ns : List ND} {i : Nat} (h : i < ns.length) : prN ns (i + 1) = prN ns i ++ lnB (ndW i ns[i]) := by
  unfold prN
  rw [List.range_succ, List.flatMap_append]
  simp [h]
def prT (st : ByteArray) (x : Nat → Int) (ns : List ND) : List UInt8 := lnB [storeW, st.data.toList] ++ prS x 21 ++ prN ns ns.length
noncomputable def prV (st : ByteArray) (x : Nat → Int) (ns : List ND) : List UInt8 := if errP st x ns = 0 then prT st x ns else []
theorem joinTail_len (m : Nat) : ∀ (r : List (List UInt8)), (∀ a ∈ r, a.length ≤ m) → (Lib.joinTail [32] r).length ≤ (m + 1) * r.length
  | [], _ => by simp [Lib.joinTail]
  | a :: r, h => by
    have ih := joinTail_len m r (fun b hb => h b (List.mem_cons_of_mem _ hb))
    have ha := h a (List.mem_cons_self ..)
    unfold Lib.joinTail at *
    simp only [List.map_cons, List.flatten_cons, List.length_append, List.length_cons, List.length_nil, Nat.mul_succ]
    omega
theorem lnB_len (m : Nat) (ws : List (List UInt8)) (h : ∀ a ∈ ws, a.length ≤ m) : (lnB ws).length ≤ (m + 1) * ws.length + 1 := by
  unfold lnB
  rw [List.length_append, List.length_singleton]
  cases ws with
  | nil => rw [Lib.join_nil]; simp
  | cons a r =>
    rw [Lib.join_cons, List.length_append, List.length_cons, Nat.mul_succ]
    have h1 := joinTail_len m r (fun b hb => h b (List.mem_cons_of_mem _ hb))
    have h2 := h a (List.mem_cons_self ..)
    omega
def i64R (n : Int) : Prop := -9223372036854775808 ≤ n ∧ n ≤ 9223372036854775807
theorem itB_len2 {n : Int} (h : i64R n) : (itB n).length ≤ 40 := Nat.le_trans (itB_len n h.1 h.2) (by omega)
theorem prS_len {x : Nat → Int} (h : ∀ i, i < 21 → i64R (x i)) (i : Nat) (hi : i ≤ 21) : (prS x i).length ≤ 83 * i := by
  induction i with
  | zero => simp [prS]
  | succ i ih =>
    rw [prS_succ, List.length_append]
    have h1 := ih (by omega)
    have h2 := lnB_len 40 [swd i, itB (x i)] (fun a ha => by
      simp at ha
      rcases ha with rfl | rfl
      · have := swd_len i; omega
      · exact itB_len2 (h i (by omega)))
    simp only [List.length_cons, List.length_nil] at h2
    omega
theorem ndW_len {j : Nat} {n : ND} (hj : j ≤ 16) (hz : i64R n.z) (hp : ∀ p ∈ n.ps, i64R p) : ∀ a ∈ ndW j n, a.length ≤ 40 := by
  intro a ha
  unfold ndW at ha
  rcases List.mem_append.1 ha with ha | ha
  · simp at ha
    rcases ha with rfl | rfl | rfl | rfl | rfl
    · decide
    · exact itB_len2 ⟨by omega, by omega⟩
    · decide
    · exact itB_len2 hz
    · decide
  · obtain ⟨p, hp', rfl⟩ := List.mem_map.1 ha
    exact itB_len2 (hp p hp')
theorem prN_len {ns : List ND} (h16 : ns.length ≤ 16) (hz : ∀ n ∈ ns, i64R n.z) (hp : ∀ n ∈ ns, ∀ p ∈ n.ps, i64R p) (hl : ∀ n ∈ ns, n.ps.length ≤ 64) (i : Nat) (hi : i ≤ ns.length) : (prN ns i).length ≤ 3000 * i := by
  induction i with
  | zero => simp [prN]
  | succ i ih =>
    rw [prN_succ (by omega), List.length_append]
    have h1 := ih (by omega)
    have hm : ns[i] ∈ ns := List.getElem_mem _
    have h2 := lnB_len 40 (ndW i ns[i]) (ndW_len (by omega) (hz _ hm) (hp _ hm))
    have h3 : (ndW i ns[i]).length ≤ 69 := by
      unfold ndW
      rw [List.length_append, List.length_map]
      have := hl _ hm
      simp only [List.length_cons, List.length_nil]
      omega
    omega
/-- what a valid definition is, for its text -/
structure PrOk (st : ByteArray) (x : Nat → Int) (ns : List ND) : Prop where
  s : st.size ≤ 1000
  x : ∀ i, i < 21 → i64R (x i)
  n : ns.length ≤ 16
  z : ∀ n ∈ ns, i64R n.z
  p : ∀ n ∈ ns, ∀ p ∈ n.ps, i64R p
  l : ∀ n ∈ ns, n.ps.length ≤ 64
theorem pr_ok {st : ByteArray} {x : Nat → Int} {ns : List ND} (h : errP st x ns = 0) : PrOk st x ns := by
  obtain ⟨hnm, hsf, hnf, hdl, _, _⟩ := errP_all h
  have n16 := nfP_len hnf
  have hfl : ∀ n ∈ ns, n.ps.length ≤ (flat ns).length ∧ ∀ p ∈ n.ps, p ∈ flat ns := fun n hn => by
    obtain ⟨q, hq, rfl⟩ := List.getElem_of_mem hn
    have e : flat ns = flat (ns.take q) ++ (ns[q].ps ++ flat (ns.drop (q + 1))) := by
      rw [← flat_cons, ← flat_append, ← List.drop_eq_getElem_cons hq, List.take_append_drop]
    rw [e]
    refine ⟨by rw [List.length_append, List.length_append]; omega, fun p hp => by simp [hp]⟩
  refine ⟨by unfold nmP at hnm; simp only [Bool.and_eq_true, decide_eq_true_eq] at hnm; omega, fun i hi => ?_, n16.2, fun n hn => ?_, fun n hn p hp => ?_, fun n hn => ?_⟩
  · have := sfP_lim hsf i (by omega)
    have h1 : ∀ m : Fin 21, 0 ≤ loS m.1 ∧ hiS m.1 ≤ 1073741824 := by decide +kernel
    have h2 := h1 ⟨i, hi⟩
    exact ⟨by have := this.1; dsimp only at h2; omega, by have := this.2; dsimp only at h2; omega⟩
  · unfold nfP at hnf
    simp only [Bool.and_eq_true] at hnf
    have := List.all_eq_true.1 hnf.2 n hn
    unfold zOk at this
    simp only [Bool.and_eq_true, decide_eq_true_eq] at this
    exact ⟨by omega, by omega⟩
  · have := hdl.all.1 p ((hfl n hn).2 p hp)
    have := hdl.p2
    exact ⟨by omega, by omega⟩
  · have := (hfl n hn).1
    have := hdl.p2
    omega
end Go.Proofs.YtanlnelfbfjelaaDoor
namespace Go.Proofs.YtanlnelfbfjelaaDoor
/-- the digits of a number -/
theorem dec_dig : ∀ (u : Nat), (Lib.decDigits u).all digB = true ∧ Lib.decDigits u ≠ [] ∧ (u ≠ 0 → (Lib.decDigits u).head? ≠ some 48) ∧ numF (Lib.decDigits u) = u := by
  intro u
  induction u using Nat.strongRecOn with
  | ind u ih =>
    rw [Lib.decDigits]
    have hd : ∀ d : Fin 10, digB (UInt8.ofNat (48 + d.1)) = true ∧ (UInt8.ofNat (48 + d.1)).toNat - 48 = d.1 ∧ (d.1 ≠ 0 → UInt8.ofNat (48 + d.1) ≠ 48) := by decide +kernel
    by_cases h : u < 10
    · rw [dif_pos h]
      obtain ⟨h1, h2, h3⟩ := hd ⟨u, h⟩
      dsimp only at h1 h2 h3
      refine ⟨by simp only [List.all_cons, List.all_nil, Bool.and_true]; exact h1, by simp, fun hu => ?_, ?_⟩
      · simp only [List.head?_cons, ne_eq, Option.some.injEq]
        exact h3 hu
      · unfold numF
        simp only [List.foldl_cons, List.foldl_nil, Nat.zero_mul, Nat.zero_add]
        exact h2
    · rw [dif_neg h]
      obtain ⟨h1, h2, h3⟩ := hd ⟨u % 10, Nat.mod_lt _ (by omega)⟩
      obtain ⟨i1, i2, i3, i4⟩ := ih (u / 10) (by omega)
      dsimp only at h1 h2 h3
      refine ⟨by rw [List.all_append, i1]; simp only [List.all_cons, List.all_nil, Bool.and_true]; exact h1, by simp, fun hu => ?_, ?_⟩
      · have := i3 (by omega)
        cases hh : Lib.decDigits (u / 10) with
        | nil => exact absurd hh i2
        | cons a b => rw [hh] at this; simpa using this
      · unfold numF at *
        rw [List.foldl_append, i4]
        simp only [List.foldl_cons, List.foldl_nil]
        rw [h2]
        omega
theorem nDigits_le : ∀ (k u : Nat), u < 10 ^ (k + 1) → Lib.nDigits u ≤ k + 1
  | 0, u, h => by rw [Lib.nDigits_small (by simpa using h)]; omega
  | k + 1, u, h => by
    by_cases h1 : u < 10
    · rw [Lib.nDigits_small h1]; omega
    · rw [Lib.nDigits_big h1]
      have := nDigits_le k (u / 10) (by rw [Nat.pow_succ] at h; omega)
      omega
theorem itB_dec {n : Int} (h : 0 ≤ n) : itB n = Lib.decDigits n.toNat := by unfold itB Lib.itoa; rw [if_neg (by omega)]
theorem numV_itB {n : Int} (h : 0 ≤ n) (h2 : n ≤ 9999999999) : numV (itB n) = n := by
  rw [itB_dec h]
  obtain ⟨d1, d2, d3, d4⟩ := dec_dig n.toNat
  unfold numV
  have hl : (Lib.decDigits n.toNat).length ≤ 10 := by
    rw [Lib.decDigits_length]
    exact nDigits_le 9 _ (by omega)
  rw [if_neg, if_pos d1, d4]
  · omega
  · rintro (e | e | ⟨e, e2⟩)
    · exact d2 e
    · omega
    · by_cases h0 : n.toNat = 0
      · apply e2
        rw [h0, Lib.decDigits_one (by omega)]
        rfl
      · exact d3 h0 e
theorem itB_no {n : Int} (h : 0 ≤ n) {c : UInt8} (hc : digB c = false) : c ∉ itB n := by
  rw [itB_dec h]
  intro hm
  have := List.all_eq_true.1 (dec_dig n.toNat).1 c hm
  rw [hc] at this
  cases this
theorem itB_ne {n : Int} (h : 0 ≤ n) : itB n ≠ [] := by rw [itB_dec h]; exact (dec_dig n.toNat).2.1
/-- words that are joined are split again -/
theorem split_join : ∀ (ws : List (List UInt8)), ws ≠ [] → (∀ a ∈ ws, (32 : UInt8) ∉ a) → splitL 32 [] (Lib.join ws [32]) = ws
  | [], h, _ => absurd rfl h
  | [a], _, hn => by
    rw [Lib.join_cons]
    simp only [Lib.joinTail, List.map_nil, List.flatten_nil, List.append_nil]
    rw [splitL_none 32 a [] (hn a (by simp))]
    rfl
  | a :: b :: r, _, hn => by
    have ih := split_join (b :: r) (by simp) (fun c hc => hn c (List.mem_cons_of_mem _ hc))
    have e : Lib.join (a :: b :: r) [32] = a ++ 32 :: Lib.join (b :: r) [32] := by
      rw [Lib.join_cons, Lib.join_cons]
      simp [Lib.joinTail]
    rw [e, splitL_at 32 a _ [] (hn a (by simp)), ih]
    rfl
theorem mem_join {c : UInt8} (hc : c ≠ 32) : ∀ (ws : List (List UInt8)), (∀ a ∈ ws, c ∉ a) → c ∉ Lib.join ws [32]
  | [], _ => by simp [Lib.join_nil]
  | a :: r, h => by
    rw [Lib.join_cons]
    intro hm
    rcases List.mem_append.1 hm with hm | hm
    · exact h a (by simp) hm
    · unfold Lib.joinTail at hm
      obtain ⟨l, hl, hcl⟩ := List.mem_flatten.1 hm
      obtain ⟨b, hb, rfl⟩ := List.mem_map.1 hl
      rcases List.mem_append.1 hcl with h1 | h1
      · simp at h1; exact hc h1
      · exact h b (List.mem_cons_of_mem _ hb) h1
/-- lines that are ended are split again -/
theorem split_lines : ∀ (L : List (List UInt8)), (∀ a ∈ L, (10 : UInt8) ∉ a) → splitL 10 [] (L.flatMap fun l => l ++ [10]) = L ++ [[]]
  | [], _ => rfl
  | a :: r, h => by
    have ih := split_lines r (fun b hb => h b (List.mem_cons_of_mem _ hb))
    rw [List.flatMap_cons, List.append_assoc, List.singleton_append, splitL_at 10 a _ [] (h a (by simp)), ih]
    rfl
/-- what may be printed -/
structure PrM (st : List UInt8) (x : Nat → Int) (ns : List ND) : Prop where
  s0 : st ≠ []
  s1 : (10 : UInt8) ∉ st
  s2 : (32 : UInt8) ∉ st
  x : ∀ i, i < 21 → 0 ≤ x i ∧ x i ≤ 9999999999
  n : ns.length ≤ 9999999999
  z : ∀ d ∈ ns, 0 ≤ d.z ∧ d.z ≤ 9999999999
  p : ∀ d ∈ ns, ∀ p ∈ d.ps, 0 ≤ p ∧ p ≤ 9999999999
/-- the line of number k: the store's, a setting's, a node's -/
def lnK (st : List UInt8) (x : Nat → Int) (ns : List ND) (k : Nat) : List UInt8 :=
  if k = 0 then Lib.join [storeW, st] [32] else if k < 22 then Lib.join [swd (k - 1), itB (x (k - 1))] [32] else Lib.join (ndW (k - 22) (ns[k - 22]?.getD default)) [32]
theorem swd_no : ∀ i : Fin 21, (10 : UInt8) ∉ swd i.1 ∧ (32 : UInt8) ∉ swd i.1 ∧ swd i.1 ≠ [] ∧ (swd i.1).head? ≠ some 35 ∧ swd i.1 ≠ nodeW ∧ swd i.1 ≠ storeW := by decide +kernel
theorem ndW_no {st : List UInt8} {x : Nat → Int} {ns : List ND} (h : PrM st x ns) {j : Nat} (hj : j < ns.length) {c : UInt8} (hc : digB c = false) (h1 : c ∉ nodeW) (h2 : c ∉ zoneW) (h3 : c ∉ partsW) : ∀ a ∈ ndW j ns[j], c ∉ a := by
  intro a ha
  have hm : ns[j] ∈ ns := List.getElem_mem _
  unfold ndW at ha
  rcases List.mem_append.1 ha with ha | ha
  · simp only [List.mem_cons, List.not_mem_nil, or_false] at ha
    rcases ha with rfl | rfl | rfl | rfl | rfl
    · exact h1
    · exact itB_no (by omega) hc
    · exact h2
    · exact itB_no (h.z _ hm).1 hc
    · exact h3
  · obtain ⟨p, hp, rfl⟩ := List.mem_map.1 ha
    exact itB_no (h.p _ hm _ hp).1 hc
theorem lnK_no {st : List UInt8} {x : Nat → Int} {ns : List ND} (h : PrM st x ns) {k : Nat} (hk : k < 22 + ns.length) : (10 : UInt8) ∉ lnK st x ns k := by
  unfold lnK
  by_cases h0 : k = 0
  · rw [if_pos h0]
    refine mem_join (by decide) _ fun a ha => ?_
    simp only [List.mem_cons, List.not_mem_nil, or_false] at ha
    rcases ha with rfl | rfl
    · decide
    · exact h.s1
  · rw [if_neg h0]
    by_cases h1 : k < 22
    · rw [if_pos h1]
      refine mem_join (by decide) _ fun a ha => ?_
      simp only [List.mem_cons, List.not_mem_nil, or_false] at ha
      rcases ha with rfl | rfl
      · exact (swd_no ⟨k - 1, by omega⟩).1
      · exact itB_no (h.x _ (by omega)).1 (by decide)
    · rw [if_neg h1, List.getElem?_eq_getElem (show k - 22 < ns.length by omega)]
      exact mem_join (by decide) _ (ndW_no h (by omega) (by decide) (by decide) (by decide) (by decide))
theorem join_head {a : List UInt8} {r : List (List UInt8)} (h : a ≠ []) : Lib.join (a :: r) [32] ≠ [] ∧ (Lib.join (a :: r) [32]).head? = a.head? := by
  rw [Lib.join_cons]
  cases a with
  | nil => exact absurd rfl h
  | cons b l => exact ⟨by simp, by simp⟩
theorem rdL_join {ws : List (List UInt8)} (hw : ∀ a ∈ ws, (32 : UInt8) ∉ a) (h0 : ws.head? ≠ some []) (h1 : ws ≠ []) (h2 : ∀ a, ws.head? = some a → a.head? ≠ some 35) (k : Nat) : rdL (Lib.join ws [32]) k = rdW ws k := by
  unfold rdL
  rw [split_join ws h1 hw]
  cases ws with
  | nil => exact absurd rfl h1
  | cons a r =>
    have ha : a ≠ [] := fun e => h0 (by rw [e]; rfl)
    obtain ⟨g1, g2⟩ := join_head (r := r) ha
    rw [if_neg]
    rintro (e | e)
    · exact g1 e
    · rw [g2] at e
      exact h2 a rfl e
theorem rd_store {st : List UInt8} {x : Nat → Int} {ns : List ND} (h : PrM st x ns) (k : Nat) : rdL (lnK st x ns 0) k = .store st := by
  unfold lnK
  rw [if_pos rfl, rdL_join]
  · unfold rdW
    rw [if_neg (show ¬ wAt [storeW, st] 0 = nodeW from show ¬ storeW = nodeW by decide), if_neg (show ¬ [storeW, st].length ≠ 2 by simp), if_pos (show wAt [storeW, st] 0 = storeW from rfl), if_neg (show ¬ wAt [storeW, st] 1 = [] from h.s0)]
    rfl
  · intro a ha
    simp only [List.mem_cons, List.not_mem_nil, or_false] at ha
    rcases ha with rfl | rfl
    · decide
    · exact h.s2
  · simp [storeW]
  · simp
  · intro a ha
    simp only [List.head?_cons, Option.some.injEq] at ha
    subst ha
    decide
theorem rd_set {st : List UInt8} {x : Nat → Int} {ns : List ND} (h : PrM st x ns) {i : Nat} (hi : i < 21) (k : Nat) : rdL (lnK st x ns (i + 1)) k = .one i (x i) := by
  unfold lnK
  obtain ⟨w1, w2, w3, w4, w5, w6⟩ := swd_no ⟨i, hi⟩
  dsimp only at w1 w2 w3 w4 w5 w6
  have hx := h.x i hi
  rw [if_neg (by omega), if_pos (by omega), Nat.add_sub_cancel, rdL_join]
  · unfold rdW
    have e0 : wAt [swd i, itB (x i)] 0 = swd i := rfl
    have e1 : wAt [swd i, itB (x i)] 1 = itB (x i) := rfl
    rw [e0, e1, if_neg w5, if_neg (show ¬ [swd i, itB (x i)].length ≠ 2 by simp), if_neg w6, numV_itB hx.1 hx.2, wdI_hit hi rfl, if_pos ⟨hi, hx.1⟩]
  · intro a ha
    simp only [List.mem_cons, List.not_mem_nil, or_false] at ha
    rcases ha with rfl | rfl
    · exact w2
    · exact itB_no hx.1 (by decide)
  · simpa using w3
  · simp
  · intro a ha
    simp only [List.head?_cons, Option.some.injEq] at ha
    subst ha
    exact w4
theorem rd_node {st : List UInt8} {x : Nat → Int} {ns : List ND} (h : PrM st x ns) {j : Nat} (hj : j < ns.length) : rdL (lnK st x ns (22 + j)) j = .node ns[j] := by
  unfold lnK
  have hm : ns[j] ∈ ns := List.getElem_mem _
  have hz := h.z _ hm
  have hp := h.p _ hm
  have hn := h.n
  rw [if_neg (by omega), if_neg (by omega), show 22 + j - 22 = j by omega, List.getElem?_eq_getElem hj, Option.getD_some, rdL_join]
  · generalize ns[j] = d at *
    unfold rdW
    have e0 : wAt (ndW j d) 0 = nodeW := rfl
    have e1 : wAt (ndW j d) 1 = itB (j : Int) := rfl
    have e2 : wAt (ndW j d) 2 = zoneW := rfl
    have e3 : wAt (ndW j d) 3 = itB d.z := rfl
    have e4 : wAt (ndW j d) 4 = partsW := rfl
    have e5 : (ndW j d).drop 5 = d.ps.map itB := rfl
    have a1 : ∀ p ∈ d.ps, numV (itB p) = p := fun p hp' => numV_itB (hp p hp').1 (hp p hp').2
    have a2 : (d.ps.map itB).all okN = true := by
      rw [List.all_eq_true]
      intro a ha
      obtain ⟨p, hp', rfl⟩ := List.mem_map.1 ha
      unfold okN
      rw [a1 p hp', decide_eq_true (hp p hp').1]
    have a3 : (d.ps.map itB).map numV = d.ps := by
      rw [List.map_map]
      conv => rhs; rw [← List.map_id d.ps]
      exact List.map_congr_left fun p hp' => a1 p hp'
    have ok : ndOk (ndW j d) j = true := by
      unfold ndOk
      rw [e1, e2, e3, e4, e5, a2, numV_itB (by omega) (by omega)]
      unfold okN
      rw [numV_itB hz.1 hz.2, decide_eq_true hz.1, decide_eq_true (show 5 ≤ (ndW j d).length by unfold ndW; simp)]
      simp
    rw [e0, if_pos rfl, if_pos ok]
    unfold ndV
    rw [e3, e5, a3, numV_itB hz.1 hz.2]
  · exact ndW_no h hj (by decide) (by decide) (by decide) (by decide)
  · unfold ndW; simp [nodeW]
  · unfold ndW; simp
  · intro a ha
    unfold ndW at ha
    simp only [List.cons_append, List.head?_cons, Option.some.injEq] at ha
    subst ha
    decide
end Go.Proofs.YtanlnelfbfjelaaDoor
