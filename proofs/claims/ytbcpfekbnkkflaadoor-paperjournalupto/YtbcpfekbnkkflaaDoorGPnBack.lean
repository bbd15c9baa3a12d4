import Derived.Test.YtbcpfekbnkkflaaDoorPnSame
import Derived.Test.YtbcpfekbnkkflaaDoorGPnPrint
namespace Go.Proofs.YtbcpfekbnkkflaaDoor
open Go.RowKit Go.Shelf
theorem dec_facts : ∀ (u : Nat), (Lib.decDigits u).all isDig = true ∧ valD (Lib.decDigits u) = u ∧ Lib.decDigits u ≠ [] ∧ (1 ≤ u → (Lib.decDigits u).head? ≠ some 48) ∧ (u = 0 → (Lib.decDigits u).length = 1) := by
  intro u
  induction u using Nat.strongRecOn with
  | ind u ih =>
    rw [Lib.decDigits]
    by_cases h : u < 10
    · rw [dif_pos h]
      have e : (UInt8.ofNat (48 + u)).toNat = 48 + u := by rw [UInt8.toNat_ofNat']; omega
      refine ⟨?_, ?_, by simp, ?_, fun _ => rfl⟩
      · simp only [List.all_cons, List.all_nil, Bool.and_true]; unfold isDig; rw [e]; simp; omega
      · show 10 * 0 + ((UInt8.ofNat (48 + u)).toNat - 48) = u; rw [e]; omega
      · intro h1 h2
        simp only [List.head?_cons, Option.some.injEq] at h2
        have := congrArg UInt8.toNat h2
        rw [e] at this
        have e48 : (48 : UInt8).toNat = 48 := rfl
        rw [e48] at this
        omega
    · rw [dif_neg h]
      obtain ⟨i1, i2, i3, i4, _⟩ := ih (u / 10) (by omega)
      have e : (UInt8.ofNat (48 + u % 10)).toNat = 48 + u % 10 := by rw [UInt8.toNat_ofNat']; omega
      refine ⟨?_, ?_, by simp, ?_, fun z => by omega⟩
      · rw [List.all_append, i1]; simp only [List.all_cons, List.all_nil, Bool.and_true, Bool.true_and]; unfold isDig; rw [e]; simp; omega
      · rw [valD_snoc, i2, e]; omega
      · intro _
        have := i4 (by omega)
        cases hd : Lib.decDigits (u / 10) with
        | nil => exact absurd hd i3
        | cons x y => rw [hd] at this; simpa using this
/-- a printed number, a blank behind it, is read as it was -/
theorem num_fwd (n : Nat) (hn : n < 10000000000000000) (r : List UInt8) : numD (Lib.decDigits n ++ 32 :: r) = Lib.decDigits n ∧ rnOk (Lib.decDigits n ++ 32 :: r) = true ∧ rnV (Lib.decDigits n ++ 32 :: r) = n := by
  obtain ⟨d1, d2, d3, d4, d5⟩ := dec_facts n
  have hlen : (Lib.decDigits n).length ≤ 16 := decDigits_len 16 n (by have : (10 : Nat) ^ 16 = 10000000000000000 := rfl; omega) (by omega)
  have hl1 : 1 ≤ (Lib.decDigits n).length := by rcases h : Lib.decDigits n with _ | ⟨x, y⟩; exact absurd h d3; simp
  have hD : numD (Lib.decDigits n ++ 32 :: r) = Lib.decDigits n := by
    have := numD_at (l := Lib.decDigits n ++ 32 :: r) (k := (Lib.decDigits n).length) (by rw [List.take_left]; exact d1) (by omega) (by simp) (.inr (.inr ⟨32, by rw [List.getElem?_append_right (Nat.le_refl _)]; simp, rfl⟩))
    rw [List.take_left] at this
    exact this
  have hO : rnOk (Lib.decDigits n ++ 32 :: r) = true := by
    unfold rnOk
    rw [hD, decide_eq_true hl1, decide_eq_true hlen]
    simp only [Bool.and_self, Bool.true_and, Bool.not_eq_true']
    by_cases h0 : n = 0
    · rw [d5 h0]; rfl
    · have h4 := d4 (by omega)
      have : (Lib.decDigits n ++ 32 :: r).head? = (Lib.decDigits n).head? := by
        cases hd : Lib.decDigits n with
        | nil => exact absurd hd d3
        | cons x y => rfl
      rw [this]
      simp only [Bool.and_eq_false_iff]
      right
      simpa using h4
  exact ⟨hD, hO, by unfold rnV; rw [if_pos hO, hD, d2]⟩
theorem st_fwd {tx : ByteArray} {q : RpS} (hq : q.bad = false) (n : Nat) (hn : n < 10000000000000000) (r : List UInt8) (hl : tx.data.toList.drop q.a = Lib.decDigits n ++ 32 :: r) :
    rVal tx q = (n : Int) ∧ (rLit bl tx (rNum tx q)).bad = false ∧ tx.data.toList.drop (rLit bl tx (rNum tx q)).a = r := by
  obtain ⟨h1, h2, h3⟩ := num_fwd n hn r
  have hb : (rNum tx q).bad = false := by show (q.bad || !rnOk _) = false; rw [hq, hl, h2]; rfl
  have ha : (rNum tx q).a = q.a + (Lib.decDigits n).length := by show q.a + (numD _).length = _; rw [hl, h1]
  have hdr : tx.data.toList.drop (rNum tx q).a = 32 :: r := by rw [ha, ← List.drop_drop, hl, List.drop_left]
  have hok : rlOk bl tx (rNum tx q).a (rNum tx q).bad = true := by unfold rlOk; rw [hb, hdr]; exact pfx_of_take (s := bl) rfl
  refine ⟨?_, ?_, ?_⟩
  · show (rnV (tx.data.toList.drop q.a) : Int) = _; rw [hl, h3]
  · show (!rlOk bl tx (rNum tx q).a (rNum tx q).bad) = false; rw [hok]; rfl
  · show tx.data.toList.drop (rlA bl tx (rNum tx q).a (rNum tx q).bad) = r
    rw [rlA_ok hok, ← List.drop_drop, hdr]; rfl
/-- a printed note is read as it was, whatever stands behind it -/
theorem note_fwd {c p e s : Int} (hok : noteOk c p e s = true) {tx : ByteArray} {a : Nat} (ha : a ≤ tx.size) (hp : pfx (noteS c p e s) (tx.data.toList.drop a) = true) : nvAt tx a = (c, p, e, s) ∧ nsz tx a = (noteS c p e s).size := by
  have hok' := hok
  unfold noteOk inR at hok'
  simp only [Bool.and_eq_true, decide_eq_true_eq] at hok'
  obtain ⟨⟨⟨⟨c0, c1⟩, p0, p1⟩, e0, e1⟩, s0, s1⟩ := hok'
  obtain ⟨C, rfl⟩ := Int.eq_ofNat_of_zero_le (show 0 ≤ c by omega)
  obtain ⟨P, rfl⟩ := Int.eq_ofNat_of_zero_le (show 0 ≤ p by omega)
  obtain ⟨E, rfl⟩ := Int.eq_ofNat_of_zero_le (show 0 ≤ e by omega)
  obtain ⟨S, rfl⟩ := Int.eq_ofNat_of_zero_le (show 0 ≤ s by omega)
  have hS : noteS C P E S = strOf (noteL C P E S) ++ strOf (sealL ⟨#[]⟩ (crcN 0 (noteL C P E S))) := by unfold noteS; rw [if_pos hok]
  have hT := hp
  rw [hS, pfx_app, Bool.and_eq_true] at hT
  have hit : ∀ n : Nat, Lib.itoa (n : Int) = Lib.decDigits n := fun n => by unfold Lib.itoa; rw [if_neg (by omega), Int.toNat_natCast]
  obtain ⟨r, hr⟩ := List.isPrefixOf_iff_prefix.1 hT.1
  have hL : tx.data.toList.drop a = Lib.decDigits C ++ 32 :: (Lib.decDigits P ++ 32 :: (Lib.decDigits E ++ 32 :: (hexL (be4 S) ++ 32 :: r))) := by
    rw [← hr, strOf_data]
    unfold noteL
    rw [hit, hit, hit, Int.toNat_natCast]
    simp
  obtain ⟨x1, x2, x3⟩ := st_fwd (q := m0 a) rfl C (by omega) _ hL
  obtain ⟨y1, y2, y3⟩ := st_fwd (q := m2 tx a) x2 P (by omega) _ x3
  obtain ⟨z1, z2, z3⟩ := st_fwd (q := m4 tx a) y2 E (by omega) _ y3
  have hx : (hexL (be4 S)).length = 8 := by rw [hexL_len]; rfl
  have htk : (hexL (be4 S) ++ 32 :: r).take 8 = hexL (be4 S) := by rw [← hx, List.take_left]
  have hrb : rbOk false 4 (hexL (be4 S) ++ 32 :: r) = true := by
    unfold rbOk
    rw [show 2 * 4 = 8 from rfl, htk, unhex_hex, List.length_append, hx, decide_eq_true (by omega)]; rfl
  have hB : ntB tx a = true := by unfold ntB; rw [show (m6 tx a).bad = false from z2, show tx.data.toList.drop (m6 tx a).a = _ from z3]; exact hrb
  have hX : ntX tx a = (S : Int) := by
    unfold ntX; rw [show (m6 tx a).bad = false from z2, show tx.data.toList.drop (m6 tx a).a = _ from z3]
    unfold rsV
    rw [if_pos hrb, htk, unhex_hex]
    show ((beV (be4 S) : Nat) : Int) = _
    rw [beV_be4 S (by omega)]
  have hCe : ntC tx a = (C : Int) := x1
  have hPe : ntP tx a = (P : Int) := y1
  have hEe : ntU tx a = (E : Int) := z1
  have hTe : ntT tx a = noteS C P E S := by unfold ntT; rw [hCe, hPe, hEe, hX]
  have hrt : rtOk tx a = true := by unfold rtOk; rw [hB, hCe, hPe, hEe, hX, hTe, hok, hp]; rfl
  obtain ⟨f0, f1, f2, f3, f4⟩ := same_at tx a ha
  unfold rtSize at f0
  unfold rtV at f1 f2 f3 f4
  rw [if_pos hrt] at f0 f1 f2 f3 f4
  rw [hTe] at f0
  rw [hCe] at f1
  rw [hPe] at f2
  rw [hEe] at f3
  rw [hX] at f4
  exact ⟨by rw [Prod.ext_iff, Prod.ext_iff, Prod.ext_iff]; exact ⟨f1.symm, f2.symm, f3.symm, f4.symm⟩, f0.symm⟩
end Go.Proofs.YtbcpfekbnkkflaaDoor
namespace Go.Proofs.YtbcpfekbnkkflaaDoor
open Go.RowKit Go.Shelf
/-- a printed number, no digit behind it, is read as it was -/
theorem num_fwd2 (n : Nat) (hn : n < 10000000000000000) (b : UInt8) (hb : isDig b = false) (r : List UInt8) : numD (Lib.decDigits n ++ b :: r) = Lib.decDigits n ∧ rnOk (Lib.decDigits n ++ b :: r) = true ∧ rnV (Lib.decDigits n ++ b :: r) = n := by
  obtain ⟨d1, d2, d3, d4, d5⟩ := dec_facts n
  have hlen : (Lib.decDigits n).length ≤ 16 := decDigits_len 16 n (by have : (10 : Nat) ^ 16 = 10000000000000000 := rfl; omega) (by omega)
  have hl1 : 1 ≤ (Lib.decDigits n).length := by rcases h : Lib.decDigits n with _ | ⟨x, y⟩; exact absurd h d3; simp
  have hD : numD (Lib.decDigits n ++ b :: r) = Lib.decDigits n := by
    have := numD_at (l := Lib.decDigits n ++ b :: r) (k := (Lib.decDigits n).length) (by rw [List.take_left]; exact d1) (by omega) (by simp) (.inr (.inr ⟨b, by rw [List.getElem?_append_right (Nat.le_refl _)]; simp, hb⟩))
    rw [List.take_left] at this
    exact this
  have hO : rnOk (Lib.decDigits n ++ b :: r) = true := by
    unfold rnOk
    rw [hD, decide_eq_true hl1, decide_eq_true hlen]
    simp only [Bool.and_self, Bool.true_and, Bool.not_eq_true']
    by_cases h0 : n = 0
    · rw [d5 h0]; rfl
    · have h4 := d4 (by omega)
      have : (Lib.decDigits n ++ b :: r).head? = (Lib.decDigits n).head? := by
        cases hd : Lib.decDigits n with
        | nil => exact absurd hd d3
        | cons x y => rfl
      rw [this]
      simp only [Bool.and_eq_false_iff]
      right
      simpa using h4
  exact ⟨hD, hO, by unfold rnV; rw [if_pos hO, hD, d2]⟩
theorem st_fwd2 {tx y : ByteArray} {q : RpS} {b : UInt8} {yr : List UInt8} (hy : y.data.toList = b :: yr) (hb : isDig b = false) (hq : q.bad = false) (n : Nat) (hn : n < 10000000000000000) (r : List UInt8) (hl : tx.data.toList.drop q.a = Lib.decDigits n ++ (y.data.toList ++ r)) :
    rVal tx q = (n : Int) ∧ (rLit y tx (rNum tx q)).bad = false ∧ tx.data.toList.drop (rLit y tx (rNum tx q)).a = r ∧ (rLit y tx (rNum tx q)).a = q.a + (Lib.decDigits n).length + y.size := by
  have hl' : tx.data.toList.drop q.a = Lib.decDigits n ++ b :: (yr ++ r) := by rw [hl, hy]; rfl
  obtain ⟨h1, h2, h3⟩ := num_fwd2 n hn b hb (yr ++ r)
  have hbd : (rNum tx q).bad = false := by show (q.bad || !rnOk _) = false; rw [hq, hl', h2]; rfl
  have ha : (rNum tx q).a = q.a + (Lib.decDigits n).length := by show q.a + (numD _).length = _; rw [hl', h1]
  have hdr : tx.data.toList.drop (rNum tx q).a = y.data.toList ++ r := by rw [ha, ← List.drop_drop, hl, List.drop_left]
  have hok : rlOk y tx (rNum tx q).a (rNum tx q).bad = true := by
    unfold rlOk; rw [hbd, hdr]
    exact pfx_of_take (by rw [← size_data, List.take_left])
  refine ⟨?_, ?_, ?_, ?_⟩
  · show (rnV (tx.data.toList.drop q.a) : Int) = _; rw [hl', h3]
  · show (!rlOk y tx (rNum tx q).a (rNum tx q).bad) = false; rw [hok]; rfl
  · show tx.data.toList.drop (rlA y tx (rNum tx q).a (rNum tx q).bad) = r
    rw [rlA_ok hok, ← List.drop_drop, hdr, ← size_data, List.drop_left]
  · show rlA y tx (rNum tx q).a (rNum tx q).bad = _
    rw [rlA_ok hok, ha]
/-- a printed pointer is read as it was -/
theorem ptr_fwd {c p e s : Int} (hok : ptrOk c p e s = true) : ptrPE (ptrS c p e s) = 0 ∧ ptrPV (ptrS c p e s) 0 = c ∧ ptrPV (ptrS c p e s) 1 = p ∧ ptrPV (ptrS c p e s) 2 = e ∧ ptrPV (ptrS c p e s) 3 = s := by
  have hok' := hok
  unfold ptrOk inR at hok'
  simp only [Bool.and_eq_true, decide_eq_true_eq] at hok'
  obtain ⟨⟨⟨⟨c0, c1⟩, p0, p1⟩, e0, e1⟩, s0, s1⟩ := hok'
  obtain ⟨C, rfl⟩ := Int.eq_ofNat_of_zero_le c0
  obtain ⟨P, rfl⟩ := Int.eq_ofNat_of_zero_le p0
  obtain ⟨E, rfl⟩ := Int.eq_ofNat_of_zero_le e0
  obtain ⟨S, rfl⟩ := Int.eq_ofNat_of_zero_le s0
  obtain ⟨tx, htx⟩ : ∃ tx, tx = ptrS C P E S := ⟨_, rfl⟩
  rw [← htx]
  have hS : tx = (ptrTitle ++ strOf (ptrL C P E S)) ++ strOf (sealL sumWd (crcN 0 (ptrTitle ++ strOf (ptrL C P E S)).data.toList)) := by rw [htx]; unfold ptrS; rw [if_pos hok]; rfl
  have hit : ∀ n : Nat, Lib.itoa (n : Int) = Lib.decDigits n := fun n => by unfold Lib.itoa; rw [if_neg (by omega), Int.toNat_natCast]
  obtain ⟨B, hB⟩ : ∃ B, B = (ptrTitle ++ strOf (ptrL C P E S)).data.toList := ⟨_, rfl⟩
  rw [← hB] at hS
  have hD : tx.data.toList = B ++ sealL sumWd (crcN 0 B) := by rw [hS, ba_app, strOf_data, ← hB]
  obtain ⟨R, hR⟩ : ∃ R, R = sealL sumWd (crcN 0 B) := ⟨_, rfl⟩
  rw [← hR] at hD
  have hBB : B = pS1.data.toList ++ (Lib.decDigits C ++ (pS2.data.toList ++ (Lib.decDigits P ++ (pS3.data.toList ++ (Lib.decDigits E ++ (pS4.data.toList ++ (Lib.decDigits S ++ nl.data.toList))))))) := by
    rw [hB, ba_app, strOf_data]
    unfold ptrL
    rw [hit, hit, hit, hit]
    simp only [List.append_assoc]
    rfl
  have hL : tx.data.toList = pS1.data.toList ++ (Lib.decDigits C ++ (pS2.data.toList ++ (Lib.decDigits P ++ (pS3.data.toList ++ (Lib.decDigits E ++ (pS4.data.toList ++ (Lib.decDigits S ++ (nl.data.toList ++ R)))))))) := by
    rw [hD, hBB]; simp only [List.append_assoc]
  have hq1 : rlOk pS1 tx 0 false = true := by unfold rlOk; rw [List.drop_zero, hL]; exact pfx_of_take (by rw [← size_data, List.take_left])
  have a1 : (q1 tx).bad = false := by show (!rlOk pS1 tx 0 false) = false; rw [hq1]; rfl
  have a2 : (q1 tx).a = 0 + pS1.size := rlA_ok hq1
  have a3 : tx.data.toList.drop (q1 tx).a = Lib.decDigits C ++ (pS2.data.toList ++ (Lib.decDigits P ++ (pS3.data.toList ++ (Lib.decDigits E ++ (pS4.data.toList ++ (Lib.decDigits S ++ (nl.data.toList ++ R))))))) := by
    rw [a2, hL, Nat.zero_add, ← size_data, List.drop_left]
  obtain ⟨x1, x2, x3, x4⟩ := st_fwd2 (y := pS2) (q := q1 tx) rfl rfl a1 C (by omega) _ a3
  obtain ⟨y1, y2, y3, y4⟩ := st_fwd2 (y := pS3) (q := q3 tx) rfl rfl x2 P (by omega) _ x3
  obtain ⟨z1, z2, z3, z4⟩ := st_fwd2 (y := pS4) (q := q5 tx) rfl rfl y2 E (by omega) _ y3
  obtain ⟨u1, u2, u3, u4⟩ := st_fwd2 (y := nl) (q := q7 tx) rfl rfl z2 S (by omega) _ z3
  have hq9a : (q9 tx).a = B.length := by
    rw [show (q9 tx).a = _ from u4, show (q7 tx).a = _ from z4, show (q5 tx).a = _ from y4, show (q3 tx).a = _ from x4, a2, hBB]
    simp only [List.length_append, size_data]
    omega
  have hK : crcN 0 B < 4294967296 := crcN_lt _ (by omega)
  have hRd : R = sumWd.data.toList ++ (hexL (be4 (crcN 0 B)) ++ [10]) := by rw [hR]; unfold sealL; rw [List.append_assoc]
  have hx : (hexL (be4 (crcN 0 B))).length = 8 := by rw [hexL_len]; rfl
  have hdB : tx.data.toList.drop B.length = R := by rw [hD, List.drop_left]
  have hd4 : tx.data.toList.drop (B.length + 4) = hexL (be4 (crcN 0 B)) ++ [10] := by rw [← List.drop_drop, hdB, hRd, show 4 = sumWd.data.toList.length from rfl, List.drop_left]
  have hd12 : tx.data.toList.drop (B.length + 12) = [10] := by rw [show B.length + 12 = B.length + 4 + 8 by omega, ← List.drop_drop, hd4, ← hx, List.drop_left]
  have htk : (hexL (be4 (crcN 0 B)) ++ [10]).take 8 = hexL (be4 (crcN 0 B)) := by rw [← hx, List.take_left]
  have hrb : rbOk false 4 (hexL (be4 (crcN 0 B)) ++ [10]) = true := by
    unfold rbOk
    rw [show 2 * 4 = 8 from rfl, htk, unhex_hex, List.length_append, hx]; rfl
  obtain ⟨v1, v2⟩ := uns_same tx B.length
  have hun : unsOk sumWd tx B.length = true := by
    rw [v1, hd4, hd12, hrb, hdB, hRd, pfx_of_take (s := sumWd) (by rw [← size_data, List.take_left]), pfx_of_take (s := nl) rfl]; rfl
  obtain ⟨v3, v4⟩ := v2 hun
  have hfit : unsFit sumWd tx B.length = true := by
    unfold unsFit
    rw [hun, v4, hd4, hD, List.take_left]
    unfold rsV
    rw [if_pos hrb, htk, unhex_hex]
    simp [beV_be4 _ hK]
  have hsz : tx.size = B.length + 13 := by rw [← size_data, hD, List.length_append, hRd, List.length_append, List.length_append, hx]; rfl
  have hcls : clsE tx B.length = 0 := by
    unfold clsE
    rw [hun, hfit, v3, hsz]
    simp
  have hRl : rpL tx = 0 := by unfold rpL lstE; rw [show (q9 tx).bad = false from u2, hq9a, hcls]; rfl
  have hpe : ptrE (rpC tx) (rpP tx) (rpEp tx) (rpSq tx) = 0 := by
    rw [show rpC tx = _ from x1, show rpP tx = _ from y1, show rpEp tx = _ from z1, show rpSq tx = _ from u1]
    unfold ptrE; rw [if_pos hok]
  have hErr : rpErr tx = 0 := by unfold rpErr; rw [if_pos hRl, hpe]
  obtain ⟨g0, g1, g2, g3, g4⟩ := ptr_err tx
  rw [← g0, ← g1, ← g2, ← g3, ← g4]
  unfold rpV
  rw [hErr]
  exact ⟨rfl, x1, y1, z1, u1⟩
end Go.Proofs.YtbcpfekbnkkflaaDoor
namespace Go.Proofs.YtbcpfekbnkkflaaDoor
open Go.RowKit Go.Shelf
set_option maxHeartbeats 2000000 in
set_option maxRecDepth 100000 in
/-- first: a pointer that is printed and read -/
theorem first_any (w : World) (hT4 : Tab4 0 w) (hP : Pow w) :
    Calls Tryd.prog 11 #[] w fun x w' => x = .returned (.bool true) ∧ Below w.heap.size w w' := by
  have i1 : I64 1 := by unfold I64; omega
  have i0 : I64 0 := by unfold I64; omega
  have C1 := hide (fun w' (hb : Below w.heap.size w w') => printPointer_any 1 0 1 1 i1 i0 i1 i1 w' (hP.below hb) (hT4.below hb hT4.lt))
  have C2 := hide (fun w' (hb : Below w.heap.size w w') => parsePointer_any (ptrS 1 0 1 1) w' (ptrS_len 1 0 1 1 i1 i0 i1 i1) (hT4.below hb hT4.lt))
  obtain ⟨f0, f1, f2, f3, f4⟩ := ptr_fwd (c := 1) (p := 0) (e := 1) (s := 1) (by decide)
  rw [f0, f1, f2, f3, f4] at C2
  have eE : ptrE 1 0 1 1 = 0 := by decide
  rw [eE] at C1
  clear f0 f1 f2 f3 f4 eE hT4 hP i1 i0
  generalize ptrS 1 0 1 1 = S at *
  go_enter Tryd.func11, Tryd.ntmps11
  go_wp2_with fail
  refine Calls.mono (C1.out w (Below.refl _ _)) ?_
  rintro x w1 ⟨rfl, b1⟩
  have B1 := hide b1
  have D2 := hide (C2.out w1 b1)
  clear b1 C1 C2
  go_wp2_with fail
  refine Calls.mono D2.out ?_
  rintro x w2 ⟨rfl, b2⟩
  have B2 := hide (B1.out.trans (b2.mono B1.out.size))
  clear b2 D2 B1
  go_wp2_with (go_at_call 8; refine Calls.mono (pnum_any _ _) ?_; rintro e w' ⟨rfl, rfl⟩)
  go_ret
  exact ⟨rfl, B2.out.alloc B2.out.size _⟩
end Go.Proofs.YtbcpfekbnkkflaaDoor
namespace Go.Proofs.YtbcpfekbnkkflaaDoor
open Go.RowKit Go.Shelf
def nOk (n : NV) : Prop := noteOk n.1 n.2.1 n.2.2.1 n.2.2.2 = true
def nS (n : NV) : ByteArray := noteS n.1 n.2.1 n.2.2.1 n.2.2.2
/-- a journal -/
def jl (ns : List NV) : List UInt8 := ns.flatMap fun n => (nS n).data.toList
theorem jl_snoc (ns : List NV) (n : NV) : jl (ns ++ [n]) = jl ns ++ (nS n).data.toList := by simp [jl]
theorem jl_take (ns : List NV) (k : Nat) (hk : k < ns.length) : jl (ns.take (k + 1)) = jl (ns.take k) ++ (nS ns[k]).data.toList := by
  rw [List.take_succ_eq_append_getElem hk, jl_snoc]
theorem jl_split (ns : List NV) (k : Nat) : jl ns = jl (ns.take k) ++ jl (ns.drop k) := by
  unfold jl; rw [← List.flatMap_append, List.take_append_drop]
/-- of a journal the notes are read, whatever stands behind it -/
theorem notes_of {ns : List NV} (hg : ∀ n ∈ ns, nOk n) {tx : ByteArray} {Y : List UInt8} (h : tx.data.toList = jl ns ++ Y) : ∀ k, k ≤ ns.length → notesAt tx k = some (ns.take k, (jl (ns.take k)).length) := by
  intro k
  induction k with
  | zero => intro _; rfl
  | succ k ih =>
    intro hk
    have hk' : k < ns.length := by omega
    have hlen : (jl (ns.take k)).length ≤ tx.size := by rw [← size_data, h, jl_split ns k, List.length_append, List.length_append]; omega
    have hdr : tx.data.toList.drop (jl (ns.take k)).length = (nS ns[k]).data.toList ++ (jl (ns.drop (k + 1)) ++ Y) := by
      rw [h, jl_split ns (k + 1), jl_take ns k hk', List.append_assoc, List.append_assoc, List.drop_left]
    have hok : nOk ns[k] := hg _ (List.getElem_mem hk')
    obtain ⟨f1, f2⟩ := note_fwd hok hlen (by
      show pfx (nS ns[k]) _ = true
      rw [hdr]
      exact pfx_of_take (by rw [← size_data, List.take_left]))
    have hpos : nsz tx (jl (ns.take k)).length ≠ 0 := by
      rw [f2]
      unfold noteS
      rw [if_pos (show noteOk ns[k].1 ns[k].2.1 ns[k].2.2.1 ns[k].2.2.2 = true from hok), ByteArray.size_append, strOf_size, strOf_size, sealL_len]
      omega
    have := notes_step (ih (by omega)) hpos
    rw [this, f1, f2, List.take_succ_eq_append_getElem hk', jl_snoc, List.length_append, size_data]
    rfl
/-- where no line feed stands behind a place, no note stands there -/
theorem nsz_none {tx : ByteArray} {q : Nat} (h : ∀ c ∈ tx.data.toList.drop q, c ≠ 10) : nsz tx q = 0 := by
  unfold nsz ntSize
  cases hok : ntOk (restS tx q) with
  | false => rfl
  | true =>
    exfalso
    unfold ntOk at hok
    simp only [Bool.and_eq_true] at hok
    have h2 := hok.2.1
    unfold unsFit at h2
    simp only [Bool.and_eq_true] at h2
    have h3 : fldOk (sumFD ⟨#[]⟩ 0) ((restS tx q).data.toList.drop (ntN (restS tx q))) = true := h2.1
    rw [(fld_sum (f := sumFD ⟨#[]⟩ 0) (e := 10) rfl rfl rfl rfl _).1, Bool.and_eq_true] at h3
    have h4 := (pfx_nl (h3.2 : pfx nl _ = true)).2
    have h5 := List.mem_of_getElem? h4
    rw [restS_data] at h5
    exact h 10 (List.mem_of_mem_drop h5) rfl
theorem hd_ne : ∀ n : Fin 16, hd n.1 ≠ 10 := by decide
theorem hexL_ne : ∀ (l : List UInt8), ∀ c ∈ hexL l, c ≠ 10
  | [], c, h => by cases h
  | b :: r, c, h => by
    have hb := b.toNat_lt
    rcases List.mem_cons.1 h with rfl | h
    · exact hd_ne ⟨b.toNat / 16, by omega⟩
    · rcases List.mem_cons.1 h with rfl | h
      · exact hd_ne ⟨b.toNat % 16, by omega⟩
      · exact hexL_ne r c h
theorem dec_ne (u : Nat) : ∀ c ∈ Lib.decDigits u, c ≠ 10 := by
  intro c hc e
  have := (dec_facts u).1
  rw [List.all_eq_true] at this
  have := this c hc
  rw [e] at this
  revert this
  decide
/-- a line's only line feed is its last byte -/
theorem line_ne {n : NV} (h : nOk n) : ∀ c ∈ (nS n).data.toList.take ((nS n).size - 1), c ≠ 10 := by
  obtain ⟨c, p, e, s⟩ := n
  have hok : noteOk c p e s = true := h
  have hok' := hok
  unfold noteOk inR at hok'
  simp only [Bool.and_eq_true, decide_eq_true_eq] at hok'
  obtain ⟨⟨⟨⟨c0, c1⟩, p0, p1⟩, e0, e1⟩, s0, s1⟩ := hok'
  have hS : (nS (c, p, e, s)).data.toList = (noteL c p e s ++ hexL (be4 (crcN 0 (noteL c p e s)))) ++ [10] := by
    show (noteS c p e s).data.toList = _
    unfold noteS
    rw [if_pos hok, ba_app, strOf_data, strOf_data]
    unfold sealL
    simp only [List.append_assoc]
    rfl
  have hsz : (nS (c, p, e, s)).size - 1 = (noteL c p e s ++ hexL (be4 (crcN 0 (noteL c p e s)))).length := by rw [← size_data, hS, List.length_append]; simp
  rw [hsz, hS, List.take_left]
  have hit : ∀ n : Int, 0 ≤ n → ∀ x ∈ Lib.itoa n, x ≠ 10 := fun n hn x hx => by
    unfold Lib.itoa at hx; rw [if_neg (by omega)] at hx; exact dec_ne _ x hx
  intro x hx
  rcases List.mem_append.1 hx with hx | hx
  · unfold noteL at hx
    simp only [List.mem_append, List.not_mem_nil, List.mem_singleton, false_or] at hx
    rcases hx with (((hx | hx) | (hx | hx)) | (hx | hx)) | (hx | hx)
    · exact hit c (by omega) x hx
    · subst hx; decide
    · exact hit p (by omega) x hx
    · subst hx; decide
    · exact hit e (by omega) x hx
    · subst hx; decide
    · exact hexL_ne _ x hx
    · subst hx; decide
  · exact hexL_ne _ x hx
/-- of a journal whose last line is torn just the whole lines are read -/
theorem torn_notes {ns : List NV} (hg : ∀ n ∈ ns, nOk n) {n : NV} (hn : nOk n) {k : Nat} (hk : k < (nS n).size) {tx : ByteArray} (h : tx.data.toList = jl ns ++ (nS n).data.toList.take k) : notesAt tx ns.length = some (ns, (jl ns).length) ∧ nsz tx (jl ns).length = 0 := by
  have h1 := notes_of hg h ns.length (Nat.le_refl _)
  rw [List.take_length] at h1
  refine ⟨h1, nsz_none ?_⟩
  rw [h, List.drop_left]
  intro c hc
  refine line_ne hn c ?_
  have : (nS n).data.toList.take k = ((nS n).data.toList.take ((nS n).size - 1)).take k := by rw [List.take_take]; congr 1; omega
  rw [this] at hc
  exact List.mem_of_mem_take hc
end Go.Proofs.YtbcpfekbnkkflaaDoor
namespace Go.Proofs.YtbcpfekbnkkflaaDoor
open Go.RowKit Go.Shelf
theorem crcW_inj {d e : Nat} (hd : d < 4294967296) (he : e < 4294967296) (l : List UInt8) (h : crcW d l = crcW e l) : d = e := by
  have h1 := crcW_lin d (d ^^^ e) l
  rw [← Nat.xor_assoc, Nat.xor_self, Nat.zero_xor, ← h] at h1
  have h0 : stps (8 * l.length) (d ^^^ e) = 0 := by
    have := congrArg (crcW d l ^^^ ·) h1
    simp only [← Nat.xor_assoc, Nat.xor_self, Nat.zero_xor] at this
    exact this.symm
  apply xor_eq_zero'
  rcases Nat.eq_zero_or_pos (d ^^^ e) with h2 | h2
  · exact h2
  · exact absurd h0 (stps_ne _ (xor32_lt hd he) (by omega))
theorem crcB_inj {w a b : Nat} (ha : a < 256) (hb : b < 256) (h : crcB w a = crcB w b) : a = b := by
  rw [crcB_eq, crcB_eq] at h
  have h0 : stps 8 (a ^^^ b) = 0 := by
    have h1 : (w ^^^ a) ^^^ (w ^^^ b) = a ^^^ b := by
      rw [Nat.xor_comm w a, Nat.xor_comm w b]; exact xor_cancel a b w
    rw [← h1, stps_xor, h, Nat.xor_self]
  apply xor_eq_zero'
  rcases Nat.eq_zero_or_pos (a ^^^ b) with h2 | h2
  · exact h2
  · exact absurd h0 (stps_ne _ (xor32_lt (by omega) (by omega)) (by omega))
/-- one byte turned into another turns the sum into another -/
theorem crc_byte (x y : List UInt8) (b c : UInt8) (h : crcN 0 (x ++ b :: y) = crcN 0 (x ++ c :: y)) : b = c := by
  unfold crcN at h
  have h1 := congrArg (4294967295 ^^^ ·) h
  simp only [not_not32] at h1
  rw [crcW_append, crcW_append] at h1
  have hw := crcW_lt (w := 4294967295 ^^^ 0) x (by decide)
  generalize crcW (4294967295 ^^^ 0) x = w at h1 hw
  have h2 : crcW (crcB w b.toNat) y = crcW (crcB w c.toNat) y := h1
  have h3 := crcW_inj (crcB_lt hw b.toNat_lt) (crcB_lt hw c.toNat_lt) y h2
  exact UInt8.toNat_inj.1 (crcB_inj b.toNat_lt c.toNat_lt h3)
/-- the form of a line -/
def Line (T : List UInt8) (u : List UInt8) : Prop := T = (u ++ [32]) ++ (hexL (be4 (crcN 0 (u ++ [32]))) ++ [10]) ∧ u.count 32 = 3 ∧ ∀ x ∈ u, x ≠ 10
theorem count_dec (n : Int) (hn : 0 ≤ n) : (Lib.itoa n).count 32 = 0 := by
  rw [List.count_eq_zero]
  intro h
  unfold Lib.itoa at h
  rw [if_neg (by omega)] at h
  have := (dec_facts n.toNat).1
  rw [List.all_eq_true] at this
  have := this _ h
  revert this
  decide
theorem hd_nb : ∀ n : Fin 16, hd n.1 ≠ 32 := by decide
theorem hexL_nb : ∀ (l : List UInt8), ∀ c ∈ hexL l, c ≠ 32
  | [], c, h => by cases h
  | b :: r, c, h => by
    have hb := b.toNat_lt
    rcases List.mem_cons.1 h with rfl | h
    · exact hd_nb ⟨b.toNat / 16, by omega⟩
    · rcases List.mem_cons.1 h with rfl | h
      · exact hd_nb ⟨b.toNat % 16, by omega⟩
      · exact hexL_nb r c h
theorem line_of {n : NV} (h : nOk n) : ∃ u, Line (nS n).data.toList u := by
  obtain ⟨c, p, e, s⟩ := n
  have hok : noteOk c p e s = true := h
  have hok' := hok
  unfold noteOk inR at hok'
  simp only [Bool.and_eq_true, decide_eq_true_eq] at hok'
  obtain ⟨⟨⟨⟨c0, c1⟩, p0, p1⟩, e0, e1⟩, s0, s1⟩ := hok'
  have hit : ∀ n : Int, 0 ≤ n → ∀ x ∈ Lib.itoa n, x ≠ 10 := fun n hn x hx => by
    unfold Lib.itoa at hx; rw [if_neg (by omega)] at hx; exact dec_ne _ x hx
  have hx : (hexL (be4 s.toNat)).count 32 = 0 := by rw [List.count_eq_zero]; exact fun h => hexL_nb _ _ h rfl
  refine ⟨Lib.itoa c ++ [32] ++ (Lib.itoa p ++ [32]) ++ (Lib.itoa e ++ [32]) ++ hexL (be4 s.toNat), ?_, ?_, ?_⟩
  · have hN : noteL c p e s = Lib.itoa c ++ [32] ++ (Lib.itoa p ++ [32]) ++ (Lib.itoa e ++ [32]) ++ hexL (be4 s.toNat) ++ [32] := by unfold noteL; simp only [List.nil_append, List.append_assoc]
    rw [← hN]
    show (noteS c p e s).data.toList = _
    unfold noteS
    rw [if_pos hok, ba_app, strOf_data, strOf_data]
    rfl
  · simp only [List.count_append, count_dec c (by omega), count_dec p (by omega), count_dec e (by omega), hx]
    rfl
  · intro x hx'
    simp only [List.mem_append, List.mem_singleton] at hx'
    rcases hx' with (((hx' | hx') | (hx' | hx')) | (hx' | hx')) | hx'
    · exact hit c (by omega) x hx'
    · subst hx'; decide
    · exact hit p (by omega) x hx'
    · subst hx'; decide
    · exact hit e (by omega) x hx'
    · subst hx'; decide
    · exact hexL_ne _ x hx'
theorem Line.len {T u : List UInt8} (h : Line T u) : T.length = u.length + 10 := by
  rw [h.1]; simp only [List.length_append, hexL_len]; rfl
theorem Line.last {T u : List UInt8} (h : Line T u) : T[u.length + 9]? = some 10 := by
  have hx : (hexL (be4 (crcN 0 (u ++ [32])))).length = 8 := by rw [hexL_len]; rfl
  have e : T = (u ++ [32] ++ hexL (be4 (crcN 0 (u ++ [32])))) ++ [10] := by rw [h.1]; simp only [List.append_assoc]
  rw [e, List.getElem?_append_right (by simp [hx]), show u.length + 9 - (u ++ [(32 : UInt8)] ++ hexL (be4 (crcN 0 (u ++ [(32 : UInt8)])))).length = 0 by simp [hx]]
  rfl
theorem Line.inner {T u : List UInt8} (h : Line T u) {i : Nat} (hi : i < u.length + 9) : T[i]? ≠ some 10 := by
  have hx : (hexL (be4 (crcN 0 (u ++ [32])))).length = 8 := by rw [hexL_len]; rfl
  have e : T = (u ++ [32] ++ hexL (be4 (crcN 0 (u ++ [32])))) ++ [10] := by rw [h.1]; simp only [List.append_assoc]
  intro q
  rw [e, List.getElem?_append_left (by simp [hx]; omega)] at q
  have hm := List.mem_of_getElem? q
  simp only [List.mem_append, List.mem_singleton] at hm
  rcases hm with (hm | hm) | hm
  · exact h.2.2 _ hm rfl
  · exact absurd hm (by decide)
  · exact hexL_ne _ _ hm rfl
theorem Line.head {T u : List UInt8} (h : Line T u) : T.take (u.length + 1) = u ++ [32] := by
  rw [h.1, List.take_left' (by simp)]
theorem Line.few {T u : List UInt8} (h : Line T u) {k : Nat} (hk : k ≤ u.length) : (T.take k).count 32 ≤ 3 := by
  have e : T.take k = u.take k := by
    rw [h.1, List.append_assoc, List.take_append_of_le_length hk]
  rw [e, ← h.2.1]
  exact (List.take_sublist k u).count_le _
/-- a line with one byte turned into another begins no line -/
theorem spoil {T u T' u' R : List UInt8} (h : Line T u) (h' : Line T' u') {j : Nat} {b : UInt8} (hj : j < T.length) (hb : T[j]? ≠ some b) (hp : T' <+: T.set j b ++ R) : False := by
  have l1 := h.len
  have l2 := h'.len
  have hset : ∀ i, i < T.length → i ≠ j → (T.set j b ++ R)[i]? = T[i]? := fun i hi hn => by
    rw [List.getElem?_append_left (by simpa using hi), List.getElem?_set_ne (fun e => hn e.symm)]
  have hseq : (T.set j b ++ R)[j]? = some b := by
    rw [List.getElem?_append_left (by simpa using hj), List.getElem?_set_self hj]
  have hT : T' = (T.set j b ++ R).take T'.length := List.prefix_iff_eq_take.1 hp
  have hget : ∀ i, i < T'.length → T'[i]? = (T.set j b ++ R)[i]? := fun i hi => by
    conv => lhs; rw [hT]
    rw [List.getElem?_take, if_pos hi]
  have htake : ∀ k, k ≤ T'.length → k ≤ T.length → k ≤ j → T'.take k = T.take k := fun k h1 h2 h3 => by
    rw [hT, List.take_take, Nat.min_eq_left h1, List.take_append_of_le_length (by simpa using h2), List.take_set_of_le h3]
  have c4 : ∀ {X v : List UInt8}, Line X v → (X.take (v.length + 1)).count 32 = 4 := fun hl => by rw [hl.head, List.count_append, hl.2.1]; rfl
  rcases Nat.lt_trichotomy u'.length u.length with hlt | heq | hgt
  · have g1 := hget (u'.length + 9) (by omega)
    rw [h'.last] at g1
    have hjj : j = u'.length + 9 := by
      rcases Nat.decEq j (u'.length + 9) with hne | he
      · rw [hset _ (by omega) (fun e => hne e.symm)] at g1
        exact absurd g1.symm (h.inner (by omega))
      · exact he
    have t1 := htake (u'.length + 1) (by omega) (by omega) (by omega)
    have := c4 h'
    rw [t1] at this
    have := h.few (k := u'.length + 1) (by omega)
    omega
  · have hlen : T'.length = (T.set j b).length := by simp; omega
    have hTT : T' = T.set j b := by rw [hT, hlen, List.take_left]
    have hgj : T'[j]? = some b := by rw [hget j (by omega)]; exact hseq
    by_cases j1 : j < u.length + 1
    · -- the body
      have e1 : T'.take (u.length + 1) = (T.take (u.length + 1)).set j b := by rw [hTT, List.take_set]
      have e2 : T'.drop (u.length + 1) = T.drop (u.length + 1) := by rw [hTT, List.drop_set_of_lt j1]
      rw [← heq, h'.head, heq, h.head] at e1
      have d1 : T'.drop (u.length + 1) = hexL (be4 (crcN 0 (u' ++ [32]))) ++ [10] := by rw [← heq, h'.1, List.drop_left' (by simp)]
      have d2 : T.drop (u.length + 1) = hexL (be4 (crcN 0 (u ++ [32]))) ++ [10] := by
        conv => lhs; rw [h.1]
        rw [List.drop_left' (by simp)]
      rw [d1, d2] at e2
      have e3 := (List.append_inj' e2 rfl).1
      have e4 : be4 (crcN 0 (u' ++ [32])) = be4 (crcN 0 (u ++ [32])) := by
        have := congrArg unhexL e3
        rw [unhex_hex, unhex_hex] at this
        exact Option.some.inj this
      have e5 : crcN 0 (u' ++ [32]) = crcN 0 (u ++ [32]) := by
        rw [← beV_be4 _ (crcN_lt (u' ++ [32]) (by omega)), e4, beV_be4 _ (crcN_lt (u ++ [32]) (by omega))]
      have hjl : j < (u ++ [(32 : UInt8)]).length := by simpa using j1
      rw [e1, List.set_eq_take_append_cons_drop, if_pos hjl] at e5
      have e6 : u ++ [(32 : UInt8)] = (u ++ [(32 : UInt8)]).take j ++ (u ++ [(32 : UInt8)])[j] :: (u ++ [(32 : UInt8)]).drop (j + 1) := by rw [← List.drop_eq_getElem_cons hjl, List.take_append_drop]
      conv at e5 => rhs; rw [e6]
      have e7 := crc_byte _ _ _ _ e5
      apply hb
      rw [e7]
      have : T[j]? = (T.take (u.length + 1))[j]? := by rw [List.getElem?_take, if_pos j1]
      rw [this, h.head, List.getElem?_eq_getElem hjl]
    · by_cases j2 : j = u.length + 9
      · subst j2
        rw [← heq] at hgj
        rw [h'.last] at hgj
        exact hb (by rw [h.last]; exact hgj)
      · have e1 : T'.take (u.length + 1) = T.take (u.length + 1) := htake _ (by omega) (by omega) (by omega)
        rw [← heq, h'.head, heq, h.head] at e1
        have : T' = T := by rw [h'.1, e1, ← h.1]
        rw [this] at hgj
        exact hb hgj
  · have g1 := hget (u.length + 9) (by omega)
    have hjj : j = u.length + 9 := by
      rcases Nat.decEq j (u.length + 9) with hne | he
      · rw [hset _ (by omega) (fun e => hne e.symm), h.last] at g1
        exact absurd g1 (h'.inner (by omega))
      · exact he
    have t1 := htake (u.length + 1) (by omega) (by omega) (by omega)
    have := c4 h
    rw [← t1] at this
    have := h'.few (k := u.length + 1) (by omega)
    omega
end Go.Proofs.YtbcpfekbnkkflaaDoor
