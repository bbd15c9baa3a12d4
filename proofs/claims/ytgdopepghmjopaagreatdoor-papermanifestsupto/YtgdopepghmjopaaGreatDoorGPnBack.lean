import Derived.Test.YtgdopepghmjopaaGreatDoorGPaRfQ
import Derived.Test.YtgdopepghmjopaaGreatDoorGPaWrit
import Derived.Test.YtgdopepghmjopaaGreatDoorGPaReads
namespace Go.Proofs.YtgdopepghmjopaaGreatDoor
open Go.RowKit Go.Shelf
theorem dec_facts : ∀ (u : Nat), (Lib.decDigits u).all isDig = true ∧ valD (Lib.decDigits u) = u ∧ Lib.decDigits u ≠ [] ∧ (1 ≤ u → (Lib.decDigits u).head? ≠ some 48) ∧ (u = 0 → (Lib.decDigits u).length = 1) := by
  intro u
  induction u using Nat.strongRecOn with
  | ind u ih =>
    rw [Lib.decDigits]
    by_cases h : u < 10
    · rw [dif_pos h]
      have e : (UInt8.ofNat (48 + u)).toNat = 48 + u := by rw [UInt8.toNat_ofNat']; omega
      refine ⟨?_, ?_, by simp, ?_, fun _ => rfl⟩
      · simp only [List.all_cons, List.all_nil, Bool.and_true]; unfold isDig; rw [e]; simp; omega
      · show 10 * 0 + ((UInt8.ofNat (48 + u)).toNat - 48) = u; rw [e]; omega
      · intro h1 h2
        simp only [List.head?_cons, Option.some.injEq] at h2
        have := congrArg UInt8.toNat h2
        rw [e] at this
        have e48 : (48 : UInt8).toNat = 48 := rfl
        rw [e48] at this
        omega
    · rw [dif_neg h]
      obtain ⟨i1, i2, i3, i4, _⟩ := ih (u / 10) (by omega)
      have e : (UInt8.ofNat (48 + u % 10)).toNat = 48 + u % 10 := by rw [UInt8.toNat_ofNat']; omega
      refine ⟨?_, ?_, by simp, ?_, fun z => by omega⟩
      · rw [List.all_append, i1]; simp only [List.all_cons, List.all_nil, Bool.and_true, Bool.true_and]; unfold isDig; rw [e]; simp; omega
      · rw [valD_snoc, i2, e]; omega
      · intro _
        have := i4 (by omega)
        cases hd : Lib.decDigits (u / 10) with
        | nil => exact absurd hd i3
        | cons x y => rw [hd] at this; simpa using this
/-- a printed number, a blank behind it, is read as it was -/
theorem num_fwd (n : Nat) (hn : n < 10000000000000000) (r : List UInt8) : numD (Lib.decDigits n ++ 32 :: r) = Lib.decDigits n ∧ rnOk (Lib.decDigits n ++ 32 :: r) = true ∧ rnV (Lib.decDigits n ++ 32 :: r) = n := by
  obtain ⟨d1, d2, d3, d4, d5⟩ := dec_facts n
  have hlen : (Lib.decDigits n).length ≤ 16 := decDigits_len 16 n (by have : (10 : Nat) ^ 16 = 10000000000000000 := rfl; omega) (by omega)
  have hl1 : 1 ≤ (Lib.decDigits n).length := by rcases h : Lib.decDigits n with _ | ⟨x, y⟩; exact absurd h d3; simp
  have hD : numD (Lib.decDigits n ++ 32 :: r) = Lib.decDigits n := by
    have := numD_at (l := Lib.decDigits n ++ 32 :: r) (k := (Lib.decDigits n).length) (by rw [List.take_left]; exact d1) (by omega) (by simp) (.inr (.inr ⟨32, by rw [List.getElem?_append_right (Nat.le_refl _)]; simp, rfl⟩))
    rw [List.take_left] at this
    exact this
  have hO : rnOk (Lib.decDigits n ++ 32 :: r) = true := by
    unfold rnOk
    rw [hD, decide_eq_true hl1, decide_eq_true hlen]
    simp only [Bool.and_self, Bool.true_and, Bool.not_eq_true']
    by_cases h0 : n = 0
    · rw [d5 h0]; rfl
    · have h4 := d4 (by omega)
      have : (Lib.decDigits n ++ 32 :: r).head? = (Lib.decDigits n).head? := by
        cases hd : Lib.decDigits n with
        | nil => exact absurd hd d3
        | cons x y => rfl
      rw [this]
      simp only [Bool.and_eq_false_iff]
      right
      simpa using h4
  exact ⟨hD, hO, by unfold rnV; rw [if_pos hO, hD, d2]⟩
theorem st_fwd {tx : ByteArray} {q : RpS} (hq : q.bad = false) (n : Nat) (hn : n < 10000000000000000) (r : List UInt8) (hl : tx.data.toList.drop q.a = Lib.decDigits n ++ 32 :: r) :
    rVal tx q = (n : Int) ∧ (rLit bl tx (rNum tx q)).bad = false ∧ tx.data.toList.drop (rLit bl tx (rNum tx q)).a = r := by
  obtain ⟨h1, h2, h3⟩ := num_fwd n hn r
  have hb : (rNum tx q).bad = false := by show (q.bad || !rnOk _) = false; rw [hq, hl, h2]; rfl
  have ha : (rNum tx q).a = q.a + (Lib.decDigits n).length := by show q.a + (numD _).length = _; rw [hl, h1]
  have hdr : tx.data.toList.drop (rNum tx q).a = 32 :: r := by rw [ha, ← List.drop_drop, hl, List.drop_left]
  have hok : rlOk bl tx (rNum tx q).a (rNum tx q).bad = true := by unfold rlOk; rw [hb, hdr]; exact pfx_of_take (s := bl) rfl
  refine ⟨?_, ?_, ?_⟩
  · show (rnV (tx.data.toList.drop q.a) : Int) = _; rw [hl, h3]
  · show (!rlOk bl tx (rNum tx q).a (rNum tx q).bad) = false; rw [hok]; rfl
  · show tx.data.toList.drop (rlA bl tx (rNum tx q).a (rNum tx q).bad) = r
    rw [rlA_ok hok, ← List.drop_drop, hdr]; rfl
end Go.Proofs.YtgdopepghmjopaaGreatDoor
namespace Go.Proofs.YtgdopepghmjopaaGreatDoor
open Go.RowKit Go.Shelf
/-- a printed number, no digit behind it, is read as it was -/
theorem num_fwd2 (n : Nat) (hn : n < 10000000000000000) (b : UInt8) (hb : isDig b = false) (r : List UInt8) : numD (Lib.decDigits n ++ b :: r) = Lib.decDigits n ∧ rnOk (Lib.decDigits n ++ b :: r) = true ∧ rnV (Lib.decDigits n ++ b :: r) = n := by
  obtain ⟨d1, d2, d3, d4, d5⟩ := dec_facts n
  have hlen : (Lib.decDigits n).length ≤ 16 := decDigits_len 16 n (by have : (10 : Nat) ^ 16 = 10000000000000000 := rfl; omega) (by omega)
  have hl1 : 1 ≤ (Lib.decDigits n).length := by rcases h : Lib.decDigits n with _ | ⟨x, y⟩; exact absurd h d3; simp
  have hD : numD (Lib.decDigits n ++ b :: r) = Lib.decDigits n := by
    have := numD_at (l := Lib.decDigits n ++ b :: r) (k := (Lib.decDigits n).length) (by rw [List.take_left]; exact d1) (by omega) (by simp) (.inr (.inr ⟨b, by rw [List.getElem?_append_right (Nat.le_refl _)]; simp, hb⟩))
    rw [List.take_left] at this
    exact this
  have hO : rnOk (Lib.decDigits n ++ b :: r) = true := by
    unfold rnOk
    rw [hD, decide_eq_true hl1, decide_eq_true hlen]
    simp only [Bool.and_self, Bool.true_and, Bool.not_eq_true']
    by_cases h0 : n = 0
    · rw [d5 h0]; rfl
    · have h4 := d4 (by omega)
      have : (Lib.decDigits n ++ b :: r).head? = (Lib.decDigits n).head? := by
        cases hd : Lib.decDigits n with
        | nil => exact absurd hd d3
        | cons x y => rfl
      rw [this]
      simp only [Bool.and_eq_false_iff]
      right
      simpa using h4
  exact ⟨hD, hO, by unfold rnV; rw [if_pos hO, hD, d2]⟩
theorem st_fwd2 {tx y : ByteArray} {q : RpS} {b : UInt8} {yr : List UInt8} (hy : y.data.toList = b :: yr) (hb : isDig b = false) (hq : q.bad = false) (n : Nat) (hn : n < 10000000000000000) (r : List UInt8) (hl : tx.data.toList.drop q.a = Lib.decDigits n ++ (y.data.toList ++ r)) :
    rVal tx q = (n : Int) ∧ (rLit y tx (rNum tx q)).bad = false ∧ tx.data.toList.drop (rLit y tx (rNum tx q)).a = r ∧ (rLit y tx (rNum tx q)).a = q.a + (Lib.decDigits n).length + y.size := by
  have hl' : tx.data.toList.drop q.a = Lib.decDigits n ++ b :: (yr ++ r) := by rw [hl, hy]; rfl
  obtain ⟨h1, h2, h3⟩ := num_fwd2 n hn b hb (yr ++ r)
  have hbd : (rNum tx q).bad = false := by show (q.bad || !rnOk _) = false; rw [hq, hl', h2]; rfl
  have ha : (rNum tx q).a = q.a + (Lib.decDigits n).length := by show q.a + (numD _).length = _; rw [hl', h1]
  have hdr : tx.data.toList.drop (rNum tx q).a = y.data.toList ++ r := by rw [ha, ← List.drop_drop, hl, List.drop_left]
  have hok : rlOk y tx (rNum tx q).a (rNum tx q).bad = true := by
    unfold rlOk; rw [hbd, hdr]
    exact pfx_of_take (by rw [← size_data, List.take_left])
  refine ⟨?_, ?_, ?_, ?_⟩
  · show (rnV (tx.data.toList.drop q.a) : Int) = _; rw [hl', h3]
  · show (!rlOk y tx (rNum tx q).a (rNum tx q).bad) = false; rw [hok]; rfl
  · show tx.data.toList.drop (rlA y tx (rNum tx q).a (rNum tx q).bad) = r
    rw [rlA_ok hok, ← List.drop_drop, hdr, ← size_data, List.drop_left]
  · show rlA y tx (rNum tx q).a (rNum tx q).bad = _
    rw [rlA_ok hok, ha]
end Go.Proofs.YtgdopepghmjopaaGreatDoor
namespace Go.Proofs.YtgdopepghmjopaaGreatDoor
open Go.RowKit Go.Shelf
end Go.Proofs.YtgdopepghmjopaaGreatDoor
namespace Go.Proofs.YtgdopepghmjopaaGreatDoor
open Go.RowKit Go.Shelf
theorem take1_data (t : ByteArray) : (t.extract 0 1).data.toList = t.data.toList.take 1 := by rw [Lib.extract_data]; simp
set_option maxHeartbeats 1000000 in
set_option maxRecDepth 100000 in
theorem isStore_any (t : ByteArray) (w : World) (hs : t.size ≤ 9223372036854775807) :
    Calls Tryz.prog 93 #[.string t] w fun e w' => e = .returned (.bool (decide (t.size ≤ 40) && isSt t.data.toList)) ∧ Below w.heap.size w w' := by
  by_cases h0 : t.size = 0
  · have e1 : isSt t.data.toList = false := by
      have : t.data.toList = [] := List.length_eq_zero_iff.1 (by rw [size_data]; exact h0)
      rw [this]; rfl
    rw [e1, Bool.and_false]
    have e2 : t = ⟨#[]⟩ := ByteArray.ext (Array.toList_inj.1 (by rw [List.length_eq_zero_iff.1 (show t.data.toList.length = 0 by rw [size_data]; exact h0)]))
    subst e2
    go_enter Tryz.func93, Tryz.ntmps93
    go_wp2_with fail
    go_ret
    exact ⟨rfl, Below.refl _ _⟩
  · have hne : ¬ t = ⟨#[]⟩ := fun e => h0 (by rw [e]; rfl)
    have hne2 : t.toList.isEmpty = false := by
      rw [toList_data]
      cases hd : t.data.toList with
      | nil => exact absurd (by rw [← size_data, hd]; rfl) h0
      | cons a b => rfl
    have hsz : 1 ≤ t.size := by omega
    have hsz' : (1 : Int) ≤ (t.size : Int) := by omega
    by_cases h40 : 40 < t.size
    · rw [decide_eq_false (by omega), Bool.false_and]
      have h40' : ¬ (t.size : Int) ≤ 40 := by omega
      have h40'' : (40 : Int) < (t.size : Int) := by omega
      go_enter Tryz.func93, Tryz.ntmps93
      go_wp2_with fail
      go_ret
      exact ⟨rfl, Below.refl _ _⟩
    have h40' : (t.size : Int) ≤ 40 := by omega
    have h40'' : ¬ (40 : Int) < (t.size : Int) := by omega
    rw [decide_eq_true (by omega : t.size ≤ 40), Bool.true_and]
    have C1 := hide (fun w' => isOf_any (t.extract 0 1) ltL w' (by rw [ByteArray.size_extract]; omega))
    have C2 := hide (fun w' => isOf_any t stL w' hs)
    rw [take1_data] at C1
    have HE : Hid (isSt t.data.toList = (allOf (t.data.toList.take 1) ltL && allOf t.data.toList stL)) := by
      show _ = _
      unfold isSt
      have : t.data.toList.isEmpty = false := by
        cases hd : t.data.toList with
        | nil => exact absurd (by rw [← size_data, hd]; rfl) h0
        | cons a b => rfl
      rw [this]; rfl
    obtain ⟨E, hE⟩ : ∃ E, E = isSt t.data.toList := ⟨_, rfl⟩
    rw [← hE] at HE ⊢
    unfold ltL at C1 HE
    unfold stL at C2 HE
    generalize allOf (t.data.toList.take 1) _ = A at *
    generalize allOf t.data.toList _ = B at *
    clear hE h0
    cases hA : A with
    | false =>
      rw [hA] at C1 HE
      go_enter Tryz.func93, Tryz.ntmps93
      go_wp2_with fail
      refine Calls.mono (C1.out _) ?_
      rintro e w1 ⟨rfl, rfl⟩
      go_wp2_with fail
      go_ret
      exact ⟨ret_bool HE.out.symm, Below.refl _ _⟩
    | true =>
      rw [hA] at C1 HE
      go_enter Tryz.func93, Tryz.ntmps93
      go_wp2_with fail
      refine Calls.mono (C1.out _) ?_
      rintro e w1 ⟨rfl, rfl⟩
      go_wp2_with fail
      refine Calls.mono (C2.out _) ?_
      rintro e w1 ⟨rfl, rfl⟩
      go_wp2_with fail
      go_ret
      exact ⟨ret_bool HE.out.symm, Below.refl _ _⟩
/-- a store's name that may be -/
def stOk (t : ByteArray) (lo hi : Int) : Bool := inR (t.size : Int) lo hi && isSt t.data.toList
set_option maxHeartbeats 1000000 in
set_option maxRecDepth 100000 in
theorem allows_store (n lo hi : Int) (hh : hi ≤ 40) (t : ByteArray) (w : World) (ht : t.size ≤ 9223372036854775807) :
    Calls Tryz.prog 72 #[.int .i64 4, .agg #[.int .i64 n, .string t], .int .i64 lo, .int .i64 hi] w fun e w' => e = .returned (.bool (stOk t lo hi)) ∧ Below w.heap.size w w' := by
  have hb : Below w.heap.size w (w.alloc (.cells #[.int .i64 n, .string t] 76)) := (Below.refl _ _).alloc (Nat.le_refl _) _
  have C := hide (fun w' => isStore_any t w' ht)
  obtain ⟨E, hE⟩ : ∃ E, E = stOk t lo hi := ⟨_, rfl⟩
  unfold stOk inR at hE
  rw [show stOk t lo hi = E by rw [hE]; rfl]
  have HE := hide hE
  clear hE
  generalize isSt t.data.toList = S at *
  by_cases h1 : (t.size : Int) < lo
  · go_enter Tryz.func72, Tryz.ntmps72
    go_wp2_with (go_at_call 91; refine Calls.mono (isNumeric_any _ _) ?_; rintro e w' ⟨rfl, rfl⟩)
    go_ret
    exact ⟨ret_bool (by rw [HE.out, decide_eq_false (by omega)]; rfl), hb⟩
  · by_cases h2 : hi < (t.size : Int)
    · go_enter Tryz.func72, Tryz.ntmps72
      go_wp2_with (go_at_call 91; refine Calls.mono (isNumeric_any _ _) ?_; rintro e w' ⟨rfl, rfl⟩)
      go_ret
      exact ⟨ret_bool (by rw [HE.out, decide_eq_false (p := (t.size : Int) ≤ hi) (by omega)]; simp), hb⟩
    · have HB := hide hb
      clear hb
      go_enter Tryz.func72, Tryz.ntmps72
      go_wp2_with (go_at_call 91; refine Calls.mono (isNumeric_any _ _) ?_; rintro e w' ⟨rfl, rfl⟩)
      refine Calls.mono (C.out _) ?_
      rintro e w1 ⟨rfl, b1⟩
      have B1 := hide (HB.out.trans (b1.mono HB.out.size))
      clear b1
      go_wp2_with fail
      go_ret
      exact ⟨ret_bool (by rw [HE.out, decide_eq_true (p := t.size ≤ 40) (by omega), decide_eq_true (p := lo ≤ (t.size : Int)) (by omega), decide_eq_true (p := (t.size : Int) ≤ hi) (by omega)]; rfl), B1.out⟩
set_option maxHeartbeats 1000000 in
set_option maxRecDepth 100000 in
theorem print_text (s : Int) (hs : s = 3 ∨ s = 4) (n : Int) (t : ByteArray) (w : World) :
    Calls Tryz.prog 32 #[.int .i64 s, .agg #[.int .i64 n, .string t]] w fun e w' => e = .returned (.string t) ∧ Below w.heap.size w w' := by
  have hb : Hid (Below w.heap.size w (w.alloc (.cells #[.int .i64 n, .string t] 76))) := (Below.refl _ _).alloc (Nat.le_refl _) _
  rcases hs with rfl | rfl
  · go_enter Tryz.func32, Tryz.ntmps32
    go_wp2_with fail
    go_ret
    exact ⟨rfl, hb.out⟩
  · go_enter Tryz.func32, Tryz.ntmps32
    go_wp2_with fail
    go_ret
    exact ⟨rfl, hb.out⟩
set_option maxHeartbeats 1000000 in
set_option maxRecDepth 100000 in
theorem reads_word : ReadsAs 4 := fun s w hs => by
  have e3 : (!s.toList.isEmpty) = !s.data.toList.isEmpty := by rw [toList_data]
  rw [show rdN 4 s.data.toList = 0 from rfl, show rdT 4 s.data.toList = s from strOf_toList s, show rdOk 4 s.data.toList = !s.data.toList.isEmpty from rfl, ← e3]
  clear e3
  go_enter Tryz.func87, Tryz.ntmps87
  go_wp2_with fail
  exact bodyPost_ret (v := .tuple #[.agg #[.int .i64 0, .string s], .bool (!s.toList.isEmpty)]) (by simp [results, Tryz.results87, go_sem]) rfl ⟨rfl, (Below.refl _ _).alloc (Nat.le_refl _) _⟩
end Go.Proofs.YtgdopepghmjopaaGreatDoor
namespace Go.Proofs.YtgdopepghmjopaaGreatDoor
open Go.RowKit Go.Shelf
def metaCells (st : ByteArray) (n : Nat → Int) : Array Value := #[.string st, .int .i64 (n 1), .int .i64 (n 2), .int .i64 (n 3), .int .i64 (n 4), .int .i64 (n 5), .int .i64 (n 6), .int .i64 (n 7)]
def metaN (n : Nat → Int) (i : Nat) : Int := if i = 0 then 0 else n i
def metaT (st : ByteArray) (i : Nat) : ByteArray := if i = 0 then st else ⟨#[]⟩
def metaLo : Nat → Int
  | 0 => 1
  | 1 => 1
  | 2 => 0
  | 3 => 1
  | 4 => 1
  | 5 => 1
  | 6 => 1
  | _ => 0
def metaHi : Nat → Int
  | 0 => 40
  | 1 => 999999
  | 2 => 15
  | 3 => 64
  | 4 => 16
  | 5 => 16
  | 6 => 16
  | _ => 9007199254740992
def metaOkI (st : ByteArray) (n : Nat → Int) (i : Nat) : Bool := if i = 0 then stOk st 1 40 else inR (n i) (metaLo i) (metaHi i)
def metaOk (st : ByteArray) (n : Nat → Int) : Bool := stOk st 1 40 && inR (n 1) 1 999999 && inR (n 2) 0 15 && inR (n 3) 1 64 && inR (n 4) 1 16 && inR (n 5) 1 16 && inR (n 6) 1 16 && inR (n 7) 0 9007199254740992
theorem metaOk_all (st : ByteArray) (n : Nat → Int) : allB 8 (metaOkI st n) = metaOk st n := by
  unfold allB metaOk
  simp [List.range, List.range.loop, metaOkI, metaLo, metaHi, Bool.and_assoc]
def metaO (st : ByteArray) (n : Nat → Int) (i : Nat) : ByteArray := if i = 0 then st else itS (n i)
/-- the record of a meta, in memory -/
def MetaAt (w : World) (rb : Nat) (st : ByteArray) (n : Nat → Int) : Prop := w.cell? ⟨rb, 0, none⟩ = some (.string st) ∧ ∀ i, 1 ≤ i → i < 8 → w.cell? ⟨rb, i, none⟩ = some (.int .i64 (n i))
def metaTitle : ByteArray := ⟨#[103, 114, 97, 110, 97, 114, 121, 32, 109, 101, 116, 97, 32, 49, 10]⟩
def metaE (st : ByteArray) (n : Nat → Int) : Int := if metaOk st n then 0 else 42
theorem metaOk_st {st : ByteArray} {n : Nat → Int} (h : metaOk st n = true) : 1 ≤ st.size ∧ st.size ≤ 40 ∧ isSt st.data.toList = true := by
  unfold metaOk at h
  simp only [Bool.and_eq_true] at h
  have h0 := h.1.1.1.1.1.1.1
  unfold stOk inR at h0
  simp only [Bool.and_eq_true, decide_eq_true_eq] at h0
  exact ⟨by omega, by omega, h0.2⟩
end Go.Proofs.YtgdopepghmjopaaGreatDoor
namespace Go.Proofs.YtgdopepghmjopaaGreatDoor
open Go.RowKit Go.Shelf
/-- the i-th text of what was read -/
def vT (vs : List Val) (i : Nat) : ByteArray := (vs[i]?.map (·.2)).getD ⟨#[]⟩
theorem vT_app (vs : List Val) (v : Val) (i : Nat) : vT (vs ++ [v]) i = if i = vs.length then v.2 else vT vs i := by
  unfold vT
  rcases Nat.lt_trichotomy i vs.length with h | h | h
  · rw [List.getElem?_append_left h, if_neg (by omega)]
  · rw [List.getElem?_append_right (by omega), if_pos h, h]; simp
  · rw [List.getElem?_eq_none (by simp; omega), if_neg (by omega), List.getElem?_eq_none (by omega)]
theorem MetaAt.lt {w : World} {rb : Nat} {st : ByteArray} {n : Nat → Int} (h : MetaAt w rb st n) : rb < w.heap.size := lt_of_cell? h.1
theorem MetaAt.kb {w w' : World} {R rb : Nat} {st : ByteArray} {n : Nat → Int} (h : MetaAt w rb st n) (hk : Kb R w w') (hn : rb ≠ R) : MetaAt w' rb st n := by
  have hl := h.lt
  exact ⟨by rw [hk.cell hl hn]; exact h.1, fun i h1 h2 => by rw [hk.cell hl hn]; exact h.2 i h1 h2⟩
end Go.Proofs.YtgdopepghmjopaaGreatDoor
namespace Go.Proofs.YtgdopepghmjopaaGreatDoor
open Go.RowKit Go.Shelf
theorem word_fwd : ∀ (w : List UInt8) (b : UInt8) (r : List UInt8), (∀ c ∈ w, isSep c = false) → isSep b = true → wordL (w ++ b :: r) = w
  | [], b, r, _, hb => by unfold wordL; rw [List.nil_append, List.takeWhile_cons, if_neg (by rw [hb]; simp)]
  | c :: w, b, r, h, hb => by
    have := word_fwd w b r (fun x hx => h x (List.mem_cons_of_mem _ hx)) hb
    unfold wordL at this ⊢
    rw [List.cons_append, List.takeWhile_cons, if_pos (by rw [h c List.mem_cons_self]; rfl), this]
/-- a field that stands there is read -/
theorem fld_fwd (f : FD) (w rest : List UInt8) (b : UInt8) (er : List UInt8) (he : f.en.data.toList = b :: er) (hb : isSep b = true) (hw : ∀ c ∈ w, isSep c = false) (hok : rdOk f.sh w = true) :
    fldOk f (f.wd.data.toList ++ w ++ f.en.data.toList ++ rest) = true ∧ fldN f (f.wd.data.toList ++ w ++ f.en.data.toList ++ rest) = (f.wd.data.toList ++ w ++ f.en.data.toList).length ∧ fldV f (f.wd.data.toList ++ w ++ f.en.data.toList ++ rest) = (rdN f.sh w, rdT f.sh w) := by
  have hl : f.wd.data.toList ++ w ++ f.en.data.toList ++ rest = f.wd.data.toList ++ (w ++ (f.en.data.toList ++ rest)) := by simp only [List.append_assoc]
  have hd : (f.wd.data.toList ++ (w ++ (f.en.data.toList ++ rest))).drop f.wd.size = w ++ (f.en.data.toList ++ rest) := by rw [← size_data, List.drop_left]
  have hW : fldW f (f.wd.data.toList ++ (w ++ (f.en.data.toList ++ rest))) = w := by
    unfold fldW; rw [hd, he]; exact word_fwd w b (er ++ rest) hw hb
  rw [hl]
  refine ⟨?_, ?_, ?_⟩
  · unfold fldOk
    rw [hW, hd, hok, List.drop_left, pfx_of_take (s := f.wd) (by rw [← size_data, List.take_left]), pfx_of_take (s := f.en) (by rw [← size_data, List.take_left])]
    rfl
  · unfold fldN
    rw [hW]
    simp only [List.length_append, size_data]
  · unfold fldV; rw [hW]
/-- a table that stands there is read -/
theorem tab_fwd (ts : List FD) (out : Nat → ByteArray) (hen : ∀ i (h : i < ts.length), ts[i].en.data.toList = [10]) (hw : ∀ i (_ : i < ts.length), ∀ c ∈ (out i).data.toList, isSep c = false) (hok : ∀ i (h : i < ts.length), rdOk ts[i].sh (out i).data.toList = true) :
    ∀ k, k ≤ ts.length → ∀ rest, tabOk (ts.take k) (wrL ts out k ++ rest) = true ∧ tabN (ts.take k) (wrL ts out k ++ rest) = (wrL ts out k).length ∧ ∀ i (_ : i < k) (h2 : i < ts.length), (tabVs (ts.take k) (wrL ts out k ++ rest))[i]? = some (rdN ts[i].sh (out i).data.toList, rdT ts[i].sh (out i).data.toList) := by
  intro k
  induction k with
  | zero => intro _ rest; exact ⟨rfl, rfl, fun i h => by omega⟩
  | succ k ih =>
    intro hk rest
    have hk' : k < ts.length := by omega
    have e : wrL ts out (k + 1) ++ rest = wrL ts out k ++ (ts[k].wd.data.toList ++ (out k).data.toList ++ ts[k].en.data.toList ++ rest) := by rw [wrL_succ ts out k hk', List.append_assoc]
    obtain ⟨i1, i2, i3⟩ := ih (by omega) (ts[k].wd.data.toList ++ (out k).data.toList ++ ts[k].en.data.toList ++ rest)
    obtain ⟨j1, j2, j3⟩ := fld_fwd ts[k] (out k).data.toList rest 10 [] (hen k hk') (by decide) (hw k hk') (hok k hk')
    have hd : (wrL ts out k ++ (ts[k].wd.data.toList ++ (out k).data.toList ++ ts[k].en.data.toList ++ rest)).drop (wrL ts out k).length = ts[k].wd.data.toList ++ (out k).data.toList ++ ts[k].en.data.toList ++ rest := List.drop_left
    rw [e, take_snoc ts k hk']
    refine ⟨?_, ?_, fun i hi h2 => ?_⟩
    · rw [tabOk_app, i1, i2, hd, tabOk_one, j1]; rfl
    · rw [tabN_app, i2, hd, tabN_one, j2, wrL_succ ts out k hk', @List.length_append _ (wrL ts out k)]
    · rw [tabVs_app, i2, hd]
      have hl : (tabVs (ts.take k) (wrL ts out k ++ (ts[k].wd.data.toList ++ (out k).data.toList ++ ts[k].en.data.toList ++ rest))).length = k := by rw [tabVs_len, List.length_take]; omega
      by_cases hik : i < k
      · rw [List.getElem?_append_left (by omega)]; exact i3 i hik h2
      · obtain rfl : i = k := by omega
        rw [List.getElem?_append_right (by omega), hl, Nat.sub_self]
        show some (fldV ts[i] _) = _
        rw [j3]
/-- a paper's last line is read -/
theorem cls_fwd {tx : ByteArray} {B : List UInt8} (hD : tx.data.toList = B ++ sealL sumWd (crcN 0 B)) : clsE tx B.length = 0 := by
  obtain ⟨R, hR⟩ : ∃ R, R = sealL sumWd (crcN 0 B) := ⟨_, rfl⟩
  rw [← hR] at hD
  have hK : crcN 0 B < 4294967296 := crcN_lt _ (by omega)
  have hRd : R = sumWd.data.toList ++ (hexL (be4 (crcN 0 B)) ++ [10]) := by rw [hR]; unfold sealL; rw [List.append_assoc]
  have hx : (hexL (be4 (crcN 0 B))).length = 8 := by rw [hexL_len]; rfl
  have hdB : tx.data.toList.drop B.length = R := by rw [hD, List.drop_left]
  have hd4 : tx.data.toList.drop (B.length + 4) = hexL (be4 (crcN 0 B)) ++ [10] := by rw [← List.drop_drop, hdB, hRd, show 4 = sumWd.data.toList.length from rfl, List.drop_left]
  have hd12 : tx.data.toList.drop (B.length + 12) = [10] := by rw [show B.length + 12 = B.length + 4 + 8 by omega, ← List.drop_drop, hd4, ← hx, List.drop_left]
  have htk : (hexL (be4 (crcN 0 B)) ++ [10]).take 8 = hexL (be4 (crcN 0 B)) := by rw [← hx, List.take_left]
  have hrb : rbOk false 4 (hexL (be4 (crcN 0 B)) ++ [10]) = true := by
    unfold rbOk
    rw [show 2 * 4 = 8 from rfl, htk, unhex_hex, List.length_append, hx]; rfl
  obtain ⟨v1, v2⟩ := uns_same tx B.length
  have hun : unsOk sumWd tx B.length = true := by
    rw [v1, hd4, hd12, hrb, hdB, hRd, pfx_of_take (s := sumWd) (by rw [← size_data, List.take_left]), pfx_of_take (s := nl) rfl]; rfl
  obtain ⟨v3, v4⟩ := v2 hun
  have hfit : unsFit sumWd tx B.length = true := by
    unfold unsFit
    rw [hun, v4, hd4, hD, List.take_left]
    unfold rsV
    rw [if_pos hrb, htk, unhex_hex]
    simp [beV_be4 _ hK]
  have hsz : tx.size = B.length + 13 := by rw [← size_data, hD, List.length_append, hRd, List.length_append, List.length_append, hx]; rfl
  unfold clsE
  rw [hun, hfit, v3, hsz]
  simp
/-- a printed number is a number -/
theorem dig_sep2 {c : UInt8} (h : isDig c = true) : isSep c = false := by
  unfold isDig at h
  simp only [Bool.and_eq_true, decide_eq_true_eq] at h
  unfold isSep
  have h1 : c ≠ 32 := fun e => by rw [e] at h; exact absurd h.1 (by decide)
  have h2 : c ≠ 10 := fun e => by rw [e] at h; exact absurd h.1 (by decide)
  simp [h1, h2]
theorem rd_num (n : Int) (h0 : 0 ≤ n) (h1 : n < 10000000000000000) : rdOk 0 (Lib.itoa n) = true ∧ rdN 0 (Lib.itoa n) = n ∧ ∀ c ∈ Lib.itoa n, isSep c = false := by
  obtain ⟨u, rfl⟩ := Int.eq_ofNat_of_zero_le h0
  have hit : Lib.itoa (u : Int) = Lib.decDigits u := by unfold Lib.itoa; rw [if_neg (by omega), Int.toNat_natCast]
  rw [hit]
  obtain ⟨d1, d2, d3, d4, d5⟩ := dec_facts u
  have hlen : (Lib.decDigits u).length ≤ 16 := decDigits_len 16 u (by have : (10 : Nat) ^ 16 = 10000000000000000 := rfl; omega) (by omega)
  have hz : zeroHd (Lib.decDigits u) = false := by
    unfold zeroHd
    by_cases hu : u = 0
    · subst hu
      have h1 := d5 rfl
      match hd : Lib.decDigits 0, h1 with
      | [c], _ =>
        have h2 : valD [c] = 0 := by rw [← hd]; exact d2
        have h3 : isDig c = true := by rw [hd] at d1; simpa using d1
        unfold isDig at h3
        simp only [Bool.and_eq_true, decide_eq_true_eq] at h3
        have h4 : c.toNat = 48 := by unfold valD at h2; simp at h2; omega
        have h5 : c = 48 := UInt8.toNat_inj.1 h4
        rw [h5]; rfl
    · have := d4 (by omega)
      rw [beq_eq_false_iff_ne.2 this]; rfl
  have hemp : (Lib.decDigits u).isEmpty = false := by
    cases hd : Lib.decDigits u with
    | nil => exact absurd hd d3
    | cons a b => rfl
  have hok : numOk (Lib.decDigits u) = true := by unfold numOk; rw [hemp, decide_eq_true hlen, hz, d1]; rfl
  refine ⟨hok, ?_, fun c hc => dig_sep2 (List.all_eq_true.1 d1 c hc)⟩
  show (numV (Lib.decDigits u) : Int) = _
  unfold numV; rw [if_pos hok, d2]
theorem stL_sep : ∀ c ∈ stL.data.toList, isSep c = false := by decide
theorem st_sep {t : List UInt8} (h : isSt t = true) : ∀ c ∈ t, isSep c = false := by
  intro c hc
  unfold isSt at h
  simp only [Bool.and_eq_true] at h
  have h2 := h.2
  unfold allOf at h2
  have := List.all_eq_true.1 h2 c hc
  exact stL_sep c (by simpa using this)
theorem metaOk_n {st : ByteArray} {n : Nat → Int} (h : metaOk st n = true) : ∀ i, 1 ≤ i → i < 8 → 0 ≤ n i ∧ n i < 10000000000000000 := by
  unfold metaOk inR at h
  simp only [Bool.and_eq_true, decide_eq_true_eq] at h
  obtain ⟨⟨⟨⟨⟨⟨⟨_, h1⟩, h2⟩, h3⟩, h4⟩, h5⟩, h6⟩, h7⟩ := h
  intro i hi1 hi2
  match i, hi1, hi2 with
  | 1, _, _ => omega
  | 2, _, _ => omega
  | 3, _, _ => omega
  | 4, _, _ => omega
  | 5, _, _ => omega
  | 6, _, _ => omega
  | 7, _, _ => omega
theorem metaO_0 (st : ByteArray) (n : Nat → Int) : metaO st n 0 = st := rfl
theorem metaO_s (st : ByteArray) (n : Nat → Int) (i : Nat) : metaO st n (i + 1) = itS (n (i + 1)) := rfl
end Go.Proofs.YtgdopepghmjopaaGreatDoor
namespace Go.Proofs.YtgdopepghmjopaaGreatDoor
open Go.RowKit Go.Shelf
end Go.Proofs.YtgdopepghmjopaaGreatDoor
namespace Go.Proofs.YtgdopepghmjopaaGreatDoor
open Go.RowKit Go.Shelf
def nOk (n : NV) : Prop := noteOk n.1 n.2.1 n.2.2.1 n.2.2.2 = true
def nS (n : NV) : ByteArray := noteS n.1 n.2.1 n.2.2.1 n.2.2.2
/-- a journal -/
def jl (ns : List NV) : List UInt8 := ns.flatMap fun n => (nS n).data.toList
theorem jl_snoc (ns : List NV) (n : NV) : jl (ns ++ [n]) = jl ns ++ (nS n).data.toList := by simp [jl]
theorem jl_take (ns : List NV) (k : Nat) (hk : k < ns.length) : jl (ns.take (k + 1)) = jl (ns.take k) ++ (nS ns[k]).data.toList := by
  rw [List.take_succ_eq_append_getElem hk, jl_snoc]
theorem jl_split (ns : List NV) (k : Nat) : jl ns = jl (ns.take k) ++ jl (ns.drop k) := by
  unfold jl; rw [← List.flatMap_append, List.take_append_drop]
theorem hd_ne : ∀ n : Fin 16, hd n.1 ≠ 10 := by decide
theorem hexL_ne : ∀ (l : List UInt8), ∀ c ∈ hexL l, c ≠ 10
  | [], c, h => by cases h
  | b :: r, c, h => by
    have hb := b.toNat_lt
    rcases List.mem_cons.1 h with rfl | h
    · exact hd_ne ⟨b.toNat / 16, by omega⟩
    · rcases List.mem_cons.1 h with rfl | h
      · exact hd_ne ⟨b.toNat % 16, by omega⟩
      · exact hexL_ne r c h
theorem dec_ne (u : Nat) : ∀ c ∈ Lib.decDigits u, c ≠ 10 := by
  intro c hc e
  have := (dec_facts u).1
  rw [List.all_eq_true] at this
  have := this c hc
  rw [e] at this
  revert this
  decide
/-- a line's only line feed is its last byte -/
theorem line_ne {n : NV} (h : nOk n) : ∀ c ∈ (nS n).data.toList.take ((nS n).size - 1), c ≠ 10 := by
  obtain ⟨c, p, e, s⟩ := n
  have hok : noteOk c p e s = true := h
  have hok' := hok
  unfold noteOk inR at hok'
  simp only [Bool.and_eq_true, decide_eq_true_eq] at hok'
  obtain ⟨⟨⟨⟨c0, c1⟩, p0, p1⟩, e0, e1⟩, s0, s1⟩ := hok'
  have hS : (nS (c, p, e, s)).data.toList = (noteL c p e s ++ hexL (be4 (crcN 0 (noteL c p e s)))) ++ [10] := by
    show (noteS c p e s).data.toList = _
    unfold noteS
    rw [if_pos hok, ba_app, strOf_data, strOf_data]
    unfold sealL
    simp only [List.append_assoc]
    rfl
  have hsz : (nS (c, p, e, s)).size - 1 = (noteL c p e s ++ hexL (be4 (crcN 0 (noteL c p e s)))).length := by rw [← size_data, hS, List.length_append]; simp
  rw [hsz, hS, List.take_left]
  have hit : ∀ n : Int, 0 ≤ n → ∀ x ∈ Lib.itoa n, x ≠ 10 := fun n hn x hx => by
    unfold Lib.itoa at hx; rw [if_neg (by omega)] at hx; exact dec_ne _ x hx
  intro x hx
  rcases List.mem_append.1 hx with hx | hx
  · unfold noteL at hx
    simp only [List.mem_append, List.not_mem_nil, List.mem_singleton, false_or] at hx
    rcases hx with (((hx | hx) | (hx | hx)) | (hx | hx)) | (hx | hx)
    · exact hit c (by omega) x hx
    · subst hx; decide
    · exact hit p (by omega) x hx
    · subst hx; decide
    · exact hit e (by omega) x hx
    · subst hx; decide
    · exact hexL_ne _ x hx
    · subst hx; decide
  · exact hexL_ne _ x hx
end Go.Proofs.YtgdopepghmjopaaGreatDoor
