import Derived.Test.YtnphdbmacccblaaMbFresh
namespace Go.Proofs.Ytnphdbmacccblaa
open Go.RowKit
/-- a step of a script -/
structure MO where
  kind : Int
  pl : Int
  n : Int
  m : Int
  s : ByteArray
structure MOFit (y : MO) : Prop where
  a1 : -9223372036854775808 ≤ y.pl
  a2 : y.pl < 9223372036854775808
  n1 : -9223372036854775808 ≤ y.n
  n2 : y.n < 9223372036854775808
  s1 : y.s.size ≤ 281474976710656
theorem MOFit.op {y : MO} (h : MOFit y) : OpFit y.pl y.n y.s := ⟨h.a1, h.a2, h.n2, h.s1⟩
/-- a script that is handed in, as it lies there -/
structure SpAt (w : World) (ao : Option Addr) (b o : Nat) (ys : List MO) : Prop where
  at0 : 0 < ys.length → ao = some ⟨b, o, none⟩
  lt : 0 < ys.length → b < w.heap.size
  c0 : ∀ (q : Nat) (h : q < ys.length), w.cell? ⟨b, o + q * 5, none⟩ = some (.int .i64 ys[q].kind)
  c1 : ∀ (q : Nat) (h : q < ys.length), w.cell? ⟨b, o + q * 5 + 1, none⟩ = some (.int .i64 ys[q].pl)
  c2 : ∀ (q : Nat) (h : q < ys.length), w.cell? ⟨b, o + q * 5 + 2, none⟩ = some (.int .i64 ys[q].n)
  c3 : ∀ (q : Nat) (h : q < ys.length), w.cell? ⟨b, o + q * 5 + 3, none⟩ = some (.int .i64 ys[q].m)
  c4 : ∀ (q : Nat) (h : q < ys.length), w.cell? ⟨b, o + q * 5 + 4, none⟩ = some (.string ys[q].s)
  fit : ∀ (q : Nat) (h : q < ys.length), MOFit ys[q]
  len : ys.length ≤ 2932031007318
set_option maxHeartbeats 8000000 in
set_option maxRecDepth 100000 in
set_option linter.unusedSimpArgs false in
set_option linter.unusedVariables false in
theorem upTo_any {w0 w : World} {B : Nat} {ao : Option Addr} {b o cap : Nat} {ys : List MO} (h : Bn w B B 0) (hw : Below B w0 w) (hB : B = w0.heap.size) (hN : SpAt w0 ao b o ys) (lo hi : Int) :
    Calls Try.prog 25 #[.pointer (some ⟨B, 0, none⟩), .slice ao ys.length cap, .int .i64 lo, .int .i64 hi] w fun e w' => e = .returned (.bool true) ∧ Bn w' B B ys.length ∧ Below B w0 w' := by
  have HN := hide hN
  have H0 := hide h
  have W0 := hide hw
  have HB := hide hB
  have hlen := hN.len
  clear h hw hN hB
  go_enter Try.func25, Try.ntmps25
  go_wp2_with fail
  go_loopw [9] (fun vi wr => ∃ (q : Nat), q ≤ ys.length ∧ vi = .int .i64 (q : Int) ∧ Bn wr B B q ∧ Below B w0 wr) (fun vi _ => ys.length - (intOf vi).toNat)
  case atStart => exact ⟨0, Nat.zero_le _, rfl, H0.out, W0.out⟩
  case round =>
    clear H0 W0
    obtain ⟨q, hq, rfl, hp, hb⟩ := hrel
    have P0 := hide hp
    have L0 := hide hb
    clear hp hb
    by_cases hql : q < ys.length
    case pos =>
      have hao := HN.out.at0 (by omega)
      subst hao
      have hqi : (q : Int) < (ys.length : Int) := by omega
      have bl : b < B := by rw [HB.out]; exact HN.out.lt (by omega)
      have e0 := (L0.out.cell bl).trans (HN.out.c0 q hql)
      have e1 := (L0.out.cell bl).trans (HN.out.c1 q hql)
      have e2 := (L0.out.cell bl).trans (HN.out.c2 q hql)
      have e3 := (L0.out.cell bl).trans (HN.out.c3 q hql)
      have e4 := (L0.out.cell bl).trans (HN.out.c4 q hql)
      have ff := HN.out.fit q hql
      generalize ys[q] = y at *
      obtain ⟨yk, yp, yn, ym, yt⟩ := y
      dsimp only at e0 e1 e2 e3 e4
      obtain ⟨W1, hW1⟩ : ∃ W1, W1 = wr.alloc (.cells #[.int .i64 yk, .int .i64 yp, .int .i64 yn, .int .i64 ym, .string yt] 41) := ⟨_, rfl⟩
      obtain ⟨I, hI⟩ : ∃ I, I = wr.heap.size := ⟨_, rfl⟩
      have O1 : Hid (OpAt W1 I yk yp yn ym yt) := by subst hW1; subst hI; exact heap_last wr _
      have B1 : Hid (Below wr.heap.size wr W1) := by subst hW1; exact (Below.refl _ wr).alloc (Nat.le_refl _) _
      have P1 := hide (P0.out.below B1.out)
      have BL := P0.out.lt.2
      have L1 : Hid (Below B w0 W1) := L0.out.trans (B1.out.mono (by omega))
      have PY := hide (plays_any P1.out (by omega) yk yp yn ym yt ff.op)
      unfold opV at PY
      clear ff bl BL
      go_upto_region 5 with fail
      rw [← hW1, ← hI]
      clear hW1 hI e0 e1 e2 e3 e4
      have i0 := O1.out.c0
      have i1 := O1.out.c1
      have i2 := O1.out.c2
      have i3 := O1.out.c3
      have i4 := O1.out.c4
      go_wp2_with fail
      refine Calls.mono PY.out ?_
      rintro e w2 ⟨rfl, hp2, hb2⟩
      have P2 := hide hp2
      have L2 : Hid (Below B w0 w2) := L1.out.trans hb2
      clear hp2 hb2 PY P1 L1 i0 i1 i2 i3 i4 O1 B1 P0 L0
      go_wp2_with fail
      go_roundw
      case rel => exact ⟨q + 1, by omega, by go_num, P2.out, L2.out⟩
      case measure => simp [intOf]; omega
    case neg =>
      obtain rfl : q = ys.length := by omega
      go_wp2_with fail
      go_ret
      exact ⟨rfl, P0.out, L0.out⟩
end Go.Proofs.Ytnphdbmacccblaa
