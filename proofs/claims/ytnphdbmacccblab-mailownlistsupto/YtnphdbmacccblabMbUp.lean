import Derived.Test.YtnphdbmacccblabMbFresh
namespace Go.Proofs.Ytnphdbmacccblab
open Go.RowKit
/-- a step of a script -/
structure MO where
  kind : Int
  pl : Int
  n : Int
  m : Int
  s : ByteArray
structure MOFit (y : MO) : Prop where
  a1 : -9223372036854775808 ≤ y.pl
  a2 : y.pl < 9223372036854775808
  n1 : -9223372036854775808 ≤ y.n
  n2 : y.n < 9223372036854775808
  s1 : y.s.size ≤ 281474976710656
theorem MOFit.op {y : MO} (h : MOFit y) : OpFit y.pl y.n y.s := ⟨h.a1, h.a2, h.n2, h.s1⟩
/-- a script that is handed in, as it lies there -/
structure SpAt (w : World) (ao : Option Addr) (b o : Nat) (ys : List MO) : Prop where
  at0 : 0 < ys.length → ao = some ⟨b, o, none⟩
  lt : 0 < ys.length → b < w.heap.size
  c0 : ∀ (q : Nat) (h : q < ys.length), w.cell? ⟨b, o + q * 5, none⟩ = some (.int .i64 ys[q].kind)
  c1 : ∀ (q : Nat) (h : q < ys.length), w.cell? ⟨b, o + q * 5 + 1, none⟩ = some (.int .i64 ys[q].pl)
  c2 : ∀ (q : Nat) (h : q < ys.length), w.cell? ⟨b, o + q * 5 + 2, none⟩ = some (.int .i64 ys[q].n)
  c3 : ∀ (q : Nat) (h : q < ys.length), w.cell? ⟨b, o + q * 5 + 3, none⟩ = some (.int .i64 ys[q].m)
  c4 : ∀ (q : Nat) (h : q < ys.length), w.cell? ⟨b, o + q * 5 + 4, none⟩ = some (.string ys[q].s)
  fit : ∀ (q : Nat) (h : q < ys.length), MOFit ys[q]
  len : ys.length ≤ 2932031007318
theorem SpAt.below {w w' : World} {ao : Option Addr} {b o : Nat} {ys : List MO} (h : SpAt w ao b o ys) (hb : Below w.heap.size w w') : SpAt w' ao b o ys :=
  ⟨h.at0, fun z => Nat.lt_of_lt_of_le (h.lt z) hb.size, fun q hq => (hb.cell (h.lt (by omega))).trans (h.c0 q hq), fun q hq => (hb.cell (h.lt (by omega))).trans (h.c1 q hq), fun q hq => (hb.cell (h.lt (by omega))).trans (h.c2 q hq), fun q hq => (hb.cell (h.lt (by omega))).trans (h.c3 q hq), fun q hq => (hb.cell (h.lt (by omega))).trans (h.c4 q hq), h.fit, h.len⟩
end Go.Proofs.Ytnphdbmacccblab
