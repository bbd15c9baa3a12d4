import Derived.Test.YtaieeabolcldgaaDoorPnBack
namespace Go.Proofs.YtaieeabolcldgaaDoor
open Go.RowKit Go.Shelf
/-- a printed number, no digit behind it, is read as it was -/
theorem num_fwd2 (n : Nat) (hn : n < 10000000000000000) (b : UInt8) (hb : isDig b = false) (r : List UInt8) : numD (Lib.decDigits n ++ b :: r) = Lib.decDigits n ∧ rnOk (Lib.decDigits n ++ b :: r) = true ∧ rnV (Lib.decDigits n ++ b :: r) = n := by
  obtain ⟨d1, d2, d3, d4, d5⟩ := dec_facts n
  have hlen : (Lib.decDigits n).length ≤ 16 := decDigits_len 16 n (by have : (10 : Nat) ^ 16 = 10000000000000000 := rfl; omega) (by omega)
  have hl1 : 1 ≤ (Lib.decDigits n).length := by rcases h : Lib.decDigits n with _ | ⟨x, y⟩; exact absurd h d3; simp
  have hD : numD (Lib.decDigits n ++ b :: r) = Lib.decDigits n := by
    have := numD_at (l := Lib.decDigits n ++ b :: r) (k := (Lib.decDigits n).length) (by rw [List.take_left]; exact d1) (by omega) (by simp) (.inr (.inr ⟨b, by rw [List.getElem?_append_right (Nat.le_refl _)]; simp, hb⟩))
    rw [List.take_left] at this
    exact this
  have hO : rnOk (Lib.decDigits n ++ b :: r) = true := by
    unfold rnOk
    rw [hD, decide_eq_true hl1, decide_eq_true hlen]
    simp only [Bool.and_self, Bool.true_and, Bool.not_eq_true']
    by_cases h0 : n = 0
    · rw [d5 h0]; rfl
    · have h4 := d4 (by omega)
      have : (Lib.decDigits n ++ b :: r).head? = (Lib.decDigits n).head? := by
        cases hd : Lib.decDigits n with
        | nil => exact absurd hd d3
        | cons x y => rfl
      rw [this]
      simp only [Bool.and_eq_false_iff]
      right
      simpa using h4
  exact ⟨hD, hO, by unfold rnV; rw [if_pos hO, hD, d2]⟩
theorem st_fwd2 {tx y : ByteArray} {q : RpS} {b : UInt8} {yr : List UInt8} (hy : y.data.toList = b :: yr) (hb : isDig b = false) (hq : q.bad = false) (n : Nat) (hn : n < 10000000000000000) (r : List UInt8) (hl : tx.data.toList.drop q.a = Lib.decDigits n ++ (y.data.toList ++ r)) :
    rVal tx q = (n : Int) ∧ (rLit y tx (rNum tx q)).bad = false ∧ tx.data.toList.drop (rLit y tx (rNum tx q)).a = r ∧ (rLit y tx (rNum tx q)).a = q.a + (Lib.decDigits n).length + y.size := by
  have hl' : tx.data.toList.drop q.a = Lib.decDigits n ++ b :: (yr ++ r) := by rw [hl, hy]; rfl
  obtain ⟨h1, h2, h3⟩ := num_fwd2 n hn b hb (yr ++ r)
  have hbd : (rNum tx q).bad = false := by show (q.bad || !rnOk _) = false; rw [hq, hl', h2]; rfl
  have ha : (rNum tx q).a = q.a + (Lib.decDigits n).length := by show q.a + (numD _).length = _; rw [hl', h1]
  have hdr : tx.data.toList.drop (rNum tx q).a = y.data.toList ++ r := by rw [ha, ← List.drop_drop, hl, List.drop_left]
  have hok : rlOk y tx (rNum tx q).a (rNum tx q).bad = true := by
    unfold rlOk; rw [hbd, hdr]
    exact pfx_of_take (by rw [← size_data, List.take_left])
  refine ⟨?_, ?_, ?_, ?_⟩
  · show (rnV (tx.data.toList.drop q.a) : Int) = _; rw [hl', h3]
  · show (!rlOk y tx (rNum tx q).a (rNum tx q).bad) = false; rw [hok]; rfl
  · show tx.data.toList.drop (rlA y tx (rNum tx q).a (rNum tx q).bad) = r
    rw [rlA_ok hok, ← List.drop_drop, hdr, ← size_data, List.drop_left]
  · show rlA y tx (rNum tx q).a (rNum tx q).bad = _
    rw [rlA_ok hok, ha]
/-- a printed pointer is read as it was -/
theorem ptr_fwd {c p e s : Int} (hok : ptrOk c p e s = true) : ptrPE (ptrS c p e s) = 0 ∧ ptrPV (ptrS c p e s) 0 = c ∧ ptrPV (ptrS c p e s) 1 = p ∧ ptrPV (ptrS c p e s) 2 = e ∧ ptrPV (ptrS c p e s) 3 = s := by
  have hok' := hok
  unfold ptrOk inR at hok'
  simp only [Bool.and_eq_true, decide_eq_true_eq] at hok'
  obtain ⟨⟨⟨⟨c0, c1⟩, p0, p1⟩, e0, e1⟩, s0, s1⟩ := hok'
  obtain ⟨C, rfl⟩ := Int.eq_ofNat_of_zero_le c0
  obtain ⟨P, rfl⟩ := Int.eq_ofNat_of_zero_le p0
  obtain ⟨E, rfl⟩ := Int.eq_ofNat_of_zero_le e0
  obtain ⟨S, rfl⟩ := Int.eq_ofNat_of_zero_le s0
  obtain ⟨tx, htx⟩ : ∃ tx, tx = ptrS C P E S := ⟨_, rfl⟩
  rw [← htx]
  have hS : tx = (ptrTitle ++ strOf (ptrL C P E S)) ++ strOf (sealL sumWd (crcN 0 (ptrTitle ++ strOf (ptrL C P E S)).data.toList)) := by rw [htx]; unfold ptrS; rw [if_pos hok]; rfl
  have hit : ∀ n : Nat, Lib.itoa (n : Int) = Lib.decDigits n := fun n => by unfold Lib.itoa; rw [if_neg (by omega), Int.toNat_natCast]
  obtain ⟨B, hB⟩ : ∃ B, B = (ptrTitle ++ strOf (ptrL C P E S)).data.toList := ⟨_, rfl⟩
  rw [← hB] at hS
  have hD : tx.data.toList = B ++ sealL sumWd (crcN 0 B) := by rw [hS, ba_app, strOf_data, ← hB]
  obtain ⟨R, hR⟩ : ∃ R, R = sealL sumWd (crcN 0 B) := ⟨_, rfl⟩
  rw [← hR] at hD
  have hBB : B = pS1.data.toList ++ (Lib.decDigits C ++ (pS2.data.toList ++ (Lib.decDigits P ++ (pS3.data.toList ++ (Lib.decDigits E ++ (pS4.data.toList ++ (Lib.decDigits S ++ nl.data.toList))))))) := by
    rw [hB, ba_app, strOf_data]
    unfold ptrL
    rw [hit, hit, hit, hit]
    simp only [List.append_assoc]
    rfl
  have hL : tx.data.toList = pS1.data.toList ++ (Lib.decDigits C ++ (pS2.data.toList ++ (Lib.decDigits P ++ (pS3.data.toList ++ (Lib.decDigits E ++ (pS4.data.toList ++ (Lib.decDigits S ++ (nl.data.toList ++ R)))))))) := by
    rw [hD, hBB]; simp only [List.append_assoc]
  have hq1 : rlOk pS1 tx 0 false = true := by unfold rlOk; rw [List.drop_zero, hL]; exact pfx_of_take (by rw [← size_data, List.take_left])
  have a1 : (q1 tx).bad = false := by show (!rlOk pS1 tx 0 false) = false; rw [hq1]; rfl
  have a2 : (q1 tx).a = 0 + pS1.size := rlA_ok hq1
  have a3 : tx.data.toList.drop (q1 tx).a = Lib.decDigits C ++ (pS2.data.toList ++ (Lib.decDigits P ++ (pS3.data.toList ++ (Lib.decDigits E ++ (pS4.data.toList ++ (Lib.decDigits S ++ (nl.data.toList ++ R))))))) := by
    rw [a2, hL, Nat.zero_add, ← size_data, List.drop_left]
  obtain ⟨x1, x2, x3, x4⟩ := st_fwd2 (y := pS2) (q := q1 tx) rfl rfl a1 C (by omega) _ a3
  obtain ⟨y1, y2, y3, y4⟩ := st_fwd2 (y := pS3) (q := q3 tx) rfl rfl x2 P (by omega) _ x3
  obtain ⟨z1, z2, z3, z4⟩ := st_fwd2 (y := pS4) (q := q5 tx) rfl rfl y2 E (by omega) _ y3
  obtain ⟨u1, u2, u3, u4⟩ := st_fwd2 (y := nl) (q := q7 tx) rfl rfl z2 S (by omega) _ z3
  have hq9a : (q9 tx).a = B.length := by
    rw [show (q9 tx).a = _ from u4, show (q7 tx).a = _ from z4, show (q5 tx).a = _ from y4, show (q3 tx).a = _ from x4, a2, hBB]
    simp only [List.length_append, size_data]
    omega
  have hK : crcN 0 B < 4294967296 := crcN_lt _ (by omega)
  have hRd : R = sumWd.data.toList ++ (hexL (be4 (crcN 0 B)) ++ [10]) := by rw [hR]; unfold sealL; rw [List.append_assoc]
  have hx : (hexL (be4 (crcN 0 B))).length = 8 := by rw [hexL_len]; rfl
  have hdB : tx.data.toList.drop B.length = R := by rw [hD, List.drop_left]
  have hd4 : tx.data.toList.drop (B.length + 4) = hexL (be4 (crcN 0 B)) ++ [10] := by rw [← List.drop_drop, hdB, hRd, show 4 = sumWd.data.toList.length from rfl, List.drop_left]
  have hd12 : tx.data.toList.drop (B.length + 12) = [10] := by rw [show B.length + 12 = B.length + 4 + 8 by omega, ← List.drop_drop, hd4, ← hx, List.drop_left]
  have htk : (hexL (be4 (crcN 0 B)) ++ [10]).take 8 = hexL (be4 (crcN 0 B)) := by rw [← hx, List.take_left]
  have hrb : rbOk false 4 (hexL (be4 (crcN 0 B)) ++ [10]) = true := by
    unfold rbOk
    rw [show 2 * 4 = 8 from rfl, htk, unhex_hex, List.length_append, hx]; rfl
  obtain ⟨v1, v2⟩ := uns_same tx B.length
  have hun : unsOk sumWd tx B.length = true := by
    rw [v1, hd4, hd12, hrb, hdB, hRd, pfx_of_take (s := sumWd) (by rw [← size_data, List.take_left]), pfx_of_take (s := nl) rfl]; rfl
  obtain ⟨v3, v4⟩ := v2 hun
  have hfit : unsFit sumWd tx B.length = true := by
    unfold unsFit
    rw [hun, v4, hd4, hD, List.take_left]
    unfold rsV
    rw [if_pos hrb, htk, unhex_hex]
    simp [beV_be4 _ hK]
  have hsz : tx.size = B.length + 13 := by rw [← size_data, hD, List.length_append, hRd, List.length_append, List.length_append, hx]; rfl
  have hcls : clsE tx B.length = 0 := by
    unfold clsE
    rw [hun, hfit, v3, hsz]
    simp
  have hRl : rpL tx = 0 := by unfold rpL lstE; rw [show (q9 tx).bad = false from u2, hq9a, hcls]; rfl
  have hpe : ptrE (rpC tx) (rpP tx) (rpEp tx) (rpSq tx) = 0 := by
    rw [show rpC tx = _ from x1, show rpP tx = _ from y1, show rpEp tx = _ from z1, show rpSq tx = _ from u1]
    unfold ptrE; rw [if_pos hok]
  have hErr : rpErr tx = 0 := by unfold rpErr; rw [if_pos hRl, hpe]
  obtain ⟨g0, g1, g2, g3, g4⟩ := ptr_err tx
  rw [← g0, ← g1, ← g2, ← g3, ← g4]
  unfold rpV
  rw [hErr]
  exact ⟨rfl, x1, y1, z1, u1⟩
end Go.Proofs.YtaieeabolcldgaaDoor
namespace Go.Proofs.YtaieeabolcldgaaDoor
open Go.RowKit Go.Shelf
set_option maxHeartbeats 2000000 in
set_option maxRecDepth 100000 in
/-- first: a pointer that is printed and read -/
theorem first_any (w : World) (hT4 : Tab4 0 w) (hP : Pow w) :
    Calls Tryd.prog 11 #[] w fun x w' => x = .returned (.bool true) ∧ Below w.heap.size w w' := by
  have i1 : I64 1 := by unfold I64; omega
  have i0 : I64 0 := by unfold I64; omega
  have C1 := hide (fun w' (hb : Below w.heap.size w w') => printPointer_any 1 0 1 1 i1 i0 i1 i1 w' (hP.below hb) (hT4.below hb hT4.lt))
  have C2 := hide (fun w' (hb : Below w.heap.size w w') => parsePointer_any (ptrS 1 0 1 1) w' (ptrS_len 1 0 1 1 i1 i0 i1 i1) (hT4.below hb hT4.lt))
  obtain ⟨f0, f1, f2, f3, f4⟩ := ptr_fwd (c := 1) (p := 0) (e := 1) (s := 1) (by decide)
  rw [f0, f1, f2, f3, f4] at C2
  have eE : ptrE 1 0 1 1 = 0 := by decide
  rw [eE] at C1
  clear f0 f1 f2 f3 f4 eE hT4 hP i1 i0
  generalize ptrS 1 0 1 1 = S at *
  go_enter Tryd.func11, Tryd.ntmps11
  go_wp2_with fail
  refine Calls.mono (C1.out w (Below.refl _ _)) ?_
  rintro x w1 ⟨rfl, b1⟩
  have B1 := hide b1
  have D2 := hide (C2.out w1 b1)
  clear b1 C1 C2
  go_wp2_with fail
  refine Calls.mono D2.out ?_
  rintro x w2 ⟨rfl, b2⟩
  have B2 := hide (B1.out.trans (b2.mono B1.out.size))
  clear b2 D2 B1
  go_wp2_with (go_at_call 8; refine Calls.mono (pnum_any _ _) ?_; rintro e w' ⟨rfl, rfl⟩)
  go_ret
  exact ⟨rfl, B2.out.alloc B2.out.size _⟩
end Go.Proofs.YtaieeabolcldgaaDoor
