import Derived.Test.YtanlnelfbfjelaaDoorGyRun
import Derived.Test.YtanlnelfbfjelaaDoorGGtDocP
import Derived.Test.YtanlnelfbfjelaaDoorGrPrint
import Derived.Test.YtanlnelfbfjelaaDoorGDgPlain
import Derived.Test.YtanlnelfbfjelaaDoorGGcSame
namespace Go.Proofs.YtanlnelfbfjelaaDoor
open Go.RowKit
theorem sfP_congr {x y : Nat → Int} (h : ∀ i, i < 21 → x i = y i) : sfP x = sfP y := by
  have e : (List.range 21).all (sfAt x) = (List.range 21).all (sfAt y) := by
    rw [Bool.eq_iff_iff, List.all_eq_true, List.all_eq_true]
    have : ∀ i ∈ List.range 21, sfAt x i = sfAt y i := fun i hi => by unfold sfAt; rw [h i (List.mem_range.1 hi)]
    exact ⟨fun g i hi => by rw [← this i hi]; exact g i hi, fun g i hi => by rw [this i hi]; exact g i hi⟩
  unfold sfP
  rw [e, h 4 (by omega), h 7 (by omega), h 9 (by omega), h 10 (by omega)]
theorem errP_congr {st : ByteArray} {x y : Nat → Int} {ns : List ND} (h : ∀ i, i < 21 → x i = y i) : errP st x ns = errP st y ns := by
  unfold errP
  rw [sfP_congr h, h 0 (by omega), h 2 (by omega)]
theorem stL_no : (10 : UInt8) ∉ stL.data.toList ∧ (32 : UInt8) ∉ stL.data.toList := by decide +kernel
theorem prm_of {st : ByteArray} {x : Nat → Int} {ns : List ND} (h : errP st x ns = 0) : PrM st.data.toList x ns := by
  obtain ⟨hnm, hsf, hnf, hdl, _, _⟩ := errP_all h
  have n16 := nfP_len hnf
  have hfl : ∀ n ∈ ns, n.ps.length ≤ (flat ns).length ∧ ∀ p ∈ n.ps, p ∈ flat ns := fun n hn => by
    obtain ⟨q, hq, rfl⟩ := List.getElem_of_mem hn
    have e : flat ns = flat (ns.take q) ++ (ns[q].ps ++ flat (ns.drop (q + 1))) := by
      rw [← flat_cons, ← flat_append, ← List.drop_eq_getElem_cons hq, List.take_append_drop]
    rw [e]
    refine ⟨by rw [List.length_append, List.length_append]; omega, fun p hp => by simp [hp]⟩
  unfold nmP isSt at hnm
  simp only [Bool.and_eq_true, decide_eq_true_eq] at hnm
  have hall : ∀ c ∈ st.data.toList, c ∈ stL.data.toList := fun c hc => by
    have := List.all_eq_true.1 hnm.2.2 c hc
    simpa using this
  refine ⟨?_, fun hc => stL_no.1 (hall _ hc), fun hc => stL_no.2 (hall _ hc), fun i hi => ?_, by omega, fun n hn => ?_, fun n hn p hp => ?_⟩
  · intro e
    rw [e] at hnm
    exact absurd hnm.2.1.1 (by decide)
  · have := sfP_lim hsf i (by omega)
    have h1 : ∀ m : Fin 21, 0 ≤ loS m.1 ∧ hiS m.1 ≤ 1073741824 := by decide +kernel
    have h2 := h1 ⟨i, hi⟩
    exact ⟨by have := this.1; dsimp only at h2; omega, by have := this.2; dsimp only at h2; omega⟩
  · unfold nfP at hnf
    simp only [Bool.and_eq_true] at hnf
    have := List.all_eq_true.1 hnf.2 n hn
    unfold zOk at this
    simp only [Bool.and_eq_true, decide_eq_true_eq] at this
    exact ⟨by omega, by omega⟩
  · have := hdl.all.1 p ((hfl n hn).2 p hp)
    have := hdl.p2
    exact ⟨by omega, by omega⟩
/-- how long the lines are -/
theorem lnK_len {st : ByteArray} {x : Nat → Int} {ns : List ND} (h : errP st x ns = 0) (k : Nat) : (k < 22 → (lnK st.data.toList x ns k).length ≤ 82) ∧ (22 ≤ k → k < 22 + ns.length → (lnK st.data.toList x ns k).length ≤ 2829) := by
  have hP := pr_ok h
  have h40 : st.size ≤ 40 := by
    have := (errP_all h).1
    unfold nmP at this
    simp only [Bool.and_eq_true, decide_eq_true_eq] at this
    exact this.1
  refine ⟨fun hk => ?_, fun h1 h2 => ?_⟩
  · unfold lnK
    by_cases h0 : k = 0
    · rw [if_pos h0]
      have := lnB_len 40 [storeW, st.data.toList] (fun a ha => by
        simp only [List.mem_cons, List.not_mem_nil, or_false] at ha
        rcases ha with rfl | rfl
        · decide
        · have : st.data.toList.length = st.size := rfl
          omega)
      unfold lnB at this
      simp only [List.length_append, List.length_cons, List.length_nil] at this
      omega
    · rw [if_neg h0, if_pos hk]
      have := lnB_len 40 [swd (k - 1), itB (x (k - 1))] (fun a ha => by
        simp only [List.mem_cons, List.not_mem_nil, or_false] at ha
        rcases ha with rfl | rfl
        · have := swd_len (k - 1); omega
        · exact itB_len2 (hP.x _ (by omega)))
      unfold lnB at this
      simp only [List.length_append, List.length_cons, List.length_nil] at this
      omega
  · have hm : ns[k - 22]'(by omega) ∈ ns := List.getElem_mem _
    unfold lnK
    rw [if_neg (by omega), if_neg (by omega), List.getElem?_eq_getElem (show k - 22 < ns.length by omega), Option.getD_some]
    have := lnB_len 40 (ndW (k - 22) (ns[k - 22]'(by omega))) (ndW_len (by have := hP.n; omega) (hP.z _ hm) (hP.p _ hm))
    have h3 : (ndW (k - 22) (ns[k - 22]'(by omega))).length ≤ 69 := by
      unfold ndW
      rw [List.length_append, List.length_map]
      have := hP.l _ hm
      simp only [List.length_cons, List.length_nil]
      omega
    unfold lnB at this
    simp only [List.length_append, List.length_cons, List.length_nil] at this
    omega
theorem tx_bound (f : Nat → List (List UInt8)) (n : Nat) (h1 : ∀ j, j < 22 → (txL (f j)).length ≤ 166) (h2 : ∀ j, 22 ≤ j → j < 22 + n → (txL (f j)).length ≤ 2840) : ∀ i, i ≤ 22 + n → (txL ((List.range i).flatMap f)).length ≤ 166 * 22 + 2840 * (i - 22) ∧ (i ≤ 22 → (txL ((List.range i).flatMap f)).length ≤ 166 * i)
  | 0, _ => by simp [txL]
  | i + 1, h => by
    obtain ⟨a, b⟩ := tx_bound f n h1 h2 i (by omega)
    rw [List.range_succ, List.flatMap_append, txL_app, List.length_append]
    have e : List.flatMap f [i] = f i := by simp
    rw [e]
    by_cases h22 : i < 22
    · have := h1 i h22
      have := b (by omega)
      exact ⟨by omega, fun _ => by omega⟩
    · have := h2 i (by omega) (by omega)
      exact ⟨by omega, fun hh => by omega⟩
theorem tx_two (l : List UInt8) : txL [l, l] = (l ++ [10]) ++ (l ++ [10]) := by unfold txL; simp
theorem tx_three (l : List UInt8) : txL [l, [], [35]] = l ++ [10, 10, 35, 10] := by unfold txL; simp
section
variable {st : ByteArray} {x : Nat → Int} {ns : List ND}
theorem tu_len (h : errP st x ns = 0) (i : Nat) (hi : i ≤ 22 + ns.length) : (txL (tuL st.data.toList x ns i)).length ≤ 60000 := by
  have := (tx_bound (fun j => if j < 22 then [lnK st.data.toList x ns (21 - j)] else [lnK st.data.toList x ns j, [], [35]]) ns.length (fun j hj => by
    rw [if_pos hj, txL_one, List.length_append, List.length_singleton]
    have := (lnK_len h (21 - j)).1 (by omega)
    omega) (fun j hj hj2 => by
    rw [if_neg (by omega), tx_three, List.length_append]
    have := (lnK_len h j).2 hj hj2
    simp only [List.length_cons, List.length_nil]
    omega) i hi).1
  have h16 := (pr_ok h).n
  unfold tuL
  omega
theorem tw_len (h : errP st x ns = 0) (k i : Nat) (hk : k < 22) (hi : i ≤ 22 + ns.length) : (txL (twL st.data.toList x ns k i)).length ≤ 60000 := by
  have := (tx_bound (fun j => if j = k then [lnK st.data.toList x ns j, lnK st.data.toList x ns j] else [lnK st.data.toList x ns j]) ns.length (fun j hj => by
    have := (lnK_len h j).1 (by omega)
    by_cases e : j = k
    · rw [if_pos e, tx_two, List.length_append, List.length_append, List.length_singleton]
      omega
    · rw [if_neg e, txL_one, List.length_append, List.length_singleton]
      omega) (fun j hj hj2 => by
    rw [if_neg (by omega), txL_one, List.length_append, List.length_singleton]
    have := (lnK_len h j).2 hj hj2
    omega) i hi).1
  have h16 := (pr_ok h).n
  unfold twL
  omega
theorem le_len (h : errP st x ns = 0) (k i : Nat) (hi : i ≤ 22 + ns.length) : (txL (leL st.data.toList x ns k i)).length ≤ 60000 := by
  have := (tx_bound (fun j => if j = k then [] else [lnK st.data.toList x ns j]) ns.length (fun j hj => by
    have := (lnK_len h j).1 (by omega)
    by_cases e : j = k
    · rw [if_pos e]
      exact Nat.zero_le _
    · rw [if_neg e, txL_one, List.length_append, List.length_singleton]
      omega) (fun j hj hj2 => by
    have := (lnK_len h j).2 hj hj2
    by_cases e : j = k
    · rw [if_pos e]
      exact Nat.zero_le _
    · rw [if_neg e, txL_one, List.length_append, List.length_singleton]
      omega) i hi).1
  have h16 := (pr_ok h).n
  unfold leL
  omega
/-- a text whose lines go -/
theorem ps_run {sl : List UInt8} (hP : PrM sl x ns) {L : List (List UInt8)} {B : Nat → Bool} {m : Nat} (hr : Run sl x ns (fun _ => false) 0 L B m) (hn : ∀ a ∈ L, (10 : UInt8) ∉ a) (hl : (txL L).length ≤ 65536) : psS (txL L) = mkS sl x ns B m ∧ psE (txL L) = clE (mkS sl x ns B m) ∧ psL (txL L) = 0 := by
  have hs : splitL 10 [] (txL L) = L ++ [[]] := split_lines L hn
  obtain ⟨f1, f2⟩ := (hr.app (.non (.inl rfl) (.nil B m))).fine hP
  rw [mkS_zero] at f1 f2
  have g1 : psS (txL L) = mkS sl x ns B m := by
    unfold psS runS
    rw [hs, List.take_length]
    exact f1
  have hF : FineL (splitL 10 [] (txL L)) (splitL 10 [] (txL L)).length := by
    rw [hs]
    exact fun j hj _ => f2 j hj
  obtain ⟨e1, e2, _⟩ := ps_end (t := txL L) (by omega) hF (.slice none 0 0)
  exact ⟨g1, by rw [e1, g1], e2⟩
/-- what is read is what was written -/
structure GoodT (t : List UInt8) (st : ByteArray) (x : Nat → Int) (ns : List ND) : Prop where
  e : psE t = 0
  l : psL t = 0
  s : strOf (psS t).st = st
  x : ∀ i, i < 21 → (psS t).x i = x i
  n : (psS t).ns = ns
theorem good_of (h : errP st x ns = 0) {L : List (List UInt8)} {B : Nat → Bool} {m : Nat} (hr : Run st.data.toList x ns (fun _ => false) 0 L B m) (hB : ∀ j, j < 22 → B j = true) (hm : m = ns.length) (hn : ∀ a ∈ L, (10 : UInt8) ∉ a) (hl : (txL L).length ≤ 65536) : GoodT (txL L) st x ns := by
  have hP := prm_of h
  obtain ⟨p1, p2, p3⟩ := ps_run hP hr hn hl
  subst hm
  have s1 : (mkS st.data.toList x ns B ns.length).st = st.data.toList := by
    show (if B 0 = true then _ else _) = _
    rw [hB 0 (by omega)]
    rfl
  have s2 : ∀ i, i < 21 → (mkS st.data.toList x ns B ns.length).x i = x i := fun i hi => by
    show (if B (i + 1) = true then _ else _) = _
    rw [hB (i + 1) (by omega)]
    rfl
  have s3 : (mkS st.data.toList x ns B ns.length).ns = ns := List.take_length
  have hlk : lackP (mkS st.data.toList x ns B ns.length) = false := lack_no (by rw [s1]; exact hP.s0) (fun i hi => by rw [s2 i hi]; exact (hP.x i hi).1)
  have hE : clE (mkS st.data.toList x ns B ns.length) = 0 := by
    rw [clE_no hlk, s1, s3, errP_congr s2, strOf_toList]
    exact h
  exact ⟨p2.trans hE, p3, by rw [p1, s1, strOf_toList], fun i hi => by rw [p1, s2 i hi], by rw [p1, s3]⟩
theorem ls_no (h : errP st x ns = 0) {f : Nat → List (List UInt8)} (hf : ∀ j, j < 22 + ns.length → ∀ a ∈ f j, a = [] ∨ a = [35] ∨ ∃ k, k < 22 + ns.length ∧ a = lnK st.data.toList x ns k) : ∀ a ∈ (List.range (22 + ns.length)).flatMap f, (10 : UInt8) ∉ a := by
  intro a ha
  obtain ⟨j, hj, hja⟩ := List.mem_flatMap.1 ha
  rcases hf j (List.mem_range.1 hj) a hja with rfl | rfl | ⟨k, hk, rfl⟩
  · simp
  · decide
  · exact lnK_no (prm_of h) hk
theorem good_print (h : errP st x ns = 0) : GoodT (prT st x ns) st x ns := by
  have e : lsL st.data.toList x ns (22 + ns.length) = leL st.data.toList x ns (22 + ns.length) (22 + ns.length) := (leL_all _ _ (Nat.le_refl _)).symm
  rw [txL_print, e]
  refine good_of h (run_less _ (.inr (Nat.le_refl _)) _ (Nat.le_refl _)) (fun j hj => ?_) (by omega) ?_ (Nat.le_trans (le_len h _ _ (Nat.le_refl _)) (by omega))
  · have h1 : j < 22 + ns.length := by omega
    have h2 : j ≠ 22 + ns.length := by omega
    rw [decide_eq_true h1, decide_eq_true hj, decide_eq_true h2]
    rfl
  · refine ls_no h fun j hj a ha => ?_
    rw [if_neg (by omega)] at ha
    exact .inr (.inr ⟨j, hj, by simpa using ha⟩)
theorem good_turned (h : errP st x ns = 0) (nt : List UInt8) (h10 : (10 : UInt8) ∉ nt) (hl : nt.length ≤ 100) : GoodT (txL ((35 :: nt) :: [] :: tuL st.data.toList x ns (22 + ns.length))) st x ns := by
  refine good_of h (.non (.inr rfl) (.non (.inl rfl) (run_turned _ (Nat.le_refl _)))) (fun j hj => ?_) (by omega) ?_ ?_
  · have h1 : 22 ≤ j + (22 + ns.length) := by omega
    rw [decide_eq_true h1, decide_eq_true hj]
    rfl
  · intro a ha
    rcases List.mem_cons.1 ha with rfl | ha
    · intro hc
      rcases List.mem_cons.1 hc with e | e
      · exact absurd e (by decide)
      · exact h10 e
    rcases List.mem_cons.1 ha with rfl | ha
    · simp
    · refine ls_no h (fun j hj a ha => ?_) a ha
      by_cases e : j < 22
      · rw [if_pos e] at ha
        exact .inr (.inr ⟨21 - j, by omega, by simpa using ha⟩)
      · rw [if_neg e] at ha
        simp only [List.mem_cons, List.not_mem_nil, or_false] at ha
        rcases ha with rfl | rfl | rfl
        · exact .inr (.inr ⟨j, hj, rfl⟩)
        · exact .inl rfl
        · exact .inr (.inl rfl)
  · have e : (35 :: nt) :: [] :: tuL st.data.toList x ns (22 + ns.length) = [35 :: nt] ++ ([[]] ++ tuL st.data.toList x ns (22 + ns.length)) := rfl
    rw [e, txL_app, txL_app, txL_one, txL_one]
    have := tu_len h _ (Nat.le_refl _)
    simp only [List.length_append, List.length_cons, List.length_nil]
    omega
theorem ps_less (h : errP st x ns = 0) {k : Nat} (hk : k < 22) : psE (txL (leL st.data.toList x ns k (22 + ns.length))) = 62 ∧ psL (txL (leL st.data.toList x ns k (22 + ns.length))) = 0 := by
  have hP := prm_of h
  obtain ⟨p1, p2, p3⟩ := ps_run hP (run_less k (.inl hk) _ (Nat.le_refl _)) (ls_no h fun j hj a ha => by
    by_cases e : j = k
    · rw [if_pos e] at ha
      simp at ha
    · rw [if_neg e] at ha
      exact .inr (.inr ⟨j, hj, by simpa using ha⟩)) (Nat.le_trans (le_len h _ _ (Nat.le_refl _)) (by omega))
  refine ⟨?_, p3⟩
  rw [p2]
  refine (clE_lack ?_ (.slice none 0 0)).1
  cases k with
  | zero =>
    refine lack_st ?_
    show (if (decide (0 < 22 + ns.length) && decide (0 < 22) && decide (0 ≠ 0)) = true then _ else _) = _
    rw [if_neg (by simp)]
  | succ i =>
    refine lack_x (i := i) (by omega) ?_
    show ¬ 0 ≤ (if (decide (i + 1 < 22 + ns.length) && decide (i + 1 < 22) && decide (i + 1 ≠ i + 1)) = true then _ else _)
    rw [if_neg (by simp)]
    omega
theorem ps_twice (h : errP st x ns = 0) {k : Nat} (hk : k < 22) : psE (txL (twL st.data.toList x ns k (22 + ns.length))) = 61 ∧ psL (txL (twL st.data.toList x ns k (22 + ns.length))) = (k : Int) + 2 := by
  have hP := prm_of h
  have hlen := tw_len h k _ hk (Nat.le_refl _)
  have hno : ∀ a ∈ twL st.data.toList x ns k (22 + ns.length), (10 : UInt8) ∉ a := ls_no h fun j hj a ha => by
    by_cases e : j = k
    · rw [if_pos e] at ha
      simp only [List.mem_cons, List.not_mem_nil, or_false, or_self] at ha
      exact .inr (.inr ⟨j, hj, ha⟩)
    · rw [if_neg e] at ha
      exact .inr (.inr ⟨j, hj, by simpa using ha⟩)
  obtain ⟨M, hM⟩ := twL_two (st := st.data.toList) (x := x) (ns := ns) k (22 + ns.length) (by omega)
  have hs := split_lines _ hno
  have hr := run_less (st := st.data.toList) (x := x) (ns := ns) (22 + ns.length) (.inr (Nat.le_refl _)) (k + 1) (by omega)
  rw [leL_all _ _ (by omega)] at hr
  obtain ⟨f1, f2⟩ := hr.fine hP
  rw [mkS_zero] at f1 f2
  have hll : (lsL st.data.toList x ns (k + 1)).length = k + 1 := by unfold lsL; simp
  obtain ⟨L, hL⟩ : ∃ L, L = splitL 10 [] (txL (twL st.data.toList x ns k (22 + ns.length))) := ⟨_, rfl⟩
  have eL : L = lsL st.data.toList x ns (k + 1) ++ lnK st.data.toList x ns k :: (M ++ [[]]) := by
    rw [hL]
    show splitL 10 [] (txL _) = _
    unfold txL
    rw [hs, hM]
    simp
  have hq : k + 1 < L.length := by rw [eL]; simp [hll]
  have hLk : L[k + 1] = lnK st.data.toList x ns k := by
    simp only [eL]
    rw [List.getElem_append_right (by omega)]
    simp [hll]
  have hrun : runS L (k + 1) = mkS st.data.toList x ns (fun j => decide (j < k + 1) && decide (j < 22) && decide (j ≠ 22 + ns.length)) (k + 1 - 22) := by
    unfold runS
    rw [eL, List.take_append_of_le_length (by omega), List.take_of_length_le (by omega)]
    exact f1
  have hF : FineL L (k + 1) := fun j hj hjk => by
    have g := f2 j (by omega)
    have e1 : L[j] = (lsL st.data.toList x ns (k + 1))[j]'(by omega) := by
      simp only [eL]
      rw [List.getElem_append_left]
    have e2 : runS L j = ((lsL st.data.toList x ns (k + 1)).take j).foldl lnN ps0 := by
      unfold runS
      rw [eL, List.take_append_of_le_length (by omega)]
    rw [e1, e2]
    exact g
  have hE : lnE (runS L (k + 1)) L[k + 1] = 61 := by
    rw [hLk, hrun, (ln_set hP _ _ hk).1, if_pos]
    have h1 : k < k + 1 := by omega
    have h2 : k ≠ 22 + ns.length := by omega
    simp only [decide_eq_true h1, decide_eq_true hk, decide_eq_true h2, Bool.and_self]
  subst hL
  obtain ⟨a1, a2, _⟩ := ps_bad (t := txL (twL st.data.toList x ns k (22 + ns.length))) (by omega) hq hF (by rw [hE]; decide) (.slice none 0 0)
  exact ⟨by rw [a1, hE], by rw [a2]; omega⟩
end
end Go.Proofs.YtanlnelfbfjelaaDoor
namespace Go.Proofs.YtanlnelfbfjelaaDoor
open Go.RowKit
theorem strOf_appY (a b : List UInt8) : strOf a ++ strOf b = strOf (a ++ b) := by
  apply ba_eq
  rw [ByteArray.data_append, Array.toList_append, strOf_data, strOf_data, strOf_data]
theorem exec_addY {ρ : Operand → Value} {op : Oper} {w : World} {a b : ByteArray} {t2 : TypeId} (x y : Operand) (ho : op.op = .binOp .add 9 x y t2) (hx : ρ x = .string a) (hy : ρ y = .string b) (ha : a.size ≤ 1000000) (hb : b.size ≤ 1000000) : (execOp ρ op).run Tryd.prog w = .ok (.value (.string (a ++ b))) w := by
  unfold execOp
  simp only [ho, hx, hy]
  go_simp
  first | omega | (rw [if_neg (by omega)]; rfl) | (rw [if_neg (by simp only [ByteArray.size_append]; omega)]; rfl)
/-- two texts joined -/
theorem wpList_addY {w : World} {ops : Array Oper} {rest : List Oper} {op : Oper} {a : Act} {Q : Exit → Act → World → Prop} (hgd : op.guard = none) {t2 : TypeId} (x y : Operand) (ho : op.op = .binOp .add 9 x y t2) (l m n : List UInt8) (hx : a.eval x = .string (strOf l)) (hy : a.eval y = .string (strOf m)) (hl : l.length ≤ 1000000) (hm : m.length ≤ 1000000) (hn : l ++ m = n)
    (h : wpList Tryd.prog ops Q rest (a.put op.dst (.string (strOf n))) w) : wpList Tryd.prog ops Q (op :: rest) a w := by
  subst hn
  refine wpList_plain hgd fun K hK => ?_
  have e := exec_addY (w := w) x y ho hx hy (by rw [strOf_size]; exact hl) (by rw [strOf_size]; exact hm)
  rw [strOf_appY] at e
  exact wp_exec e (hK _ _ h)
set_option maxHeartbeats 2000000 in
set_option maxRecDepth 100000 in
/-- the lines of a text -/
theorem cut_any (s : ByteArray) (w : World) (hs : s.size ≤ 70000) :
    Calls Tryd.prog 12 #[.string s] w fun e w' => ∃ v, e = .returned v ∧ w'.ownsRow w.heap.size 9 1 v (splitL 10 [] s.data.toList).dropLast.length ((splitL 10 [] s.data.toList).dropLast.map fun l => Value.string (strOf l)) ∧ Below w.heap.size w w' := by
  obtain ⟨i0, hi, hz0, hz1, hz2⟩ := info_partsG info9
  have hlS := size_data s
  obtain ⟨SP, hSP⟩ : ∃ SP, SP = splitL 10 [] s.data.toList := ⟨_, rfl⟩
  rw [← hSP]
  go_enter Tryd.func12, Tryd.ntmps12
  go_wp2
  go_loopw [3, 4, 5] (fun v f i wr => ∃ (k q : Nat) (l : List (List UInt8)), k ≤ s.size ∧ q ≤ k ∧ l.length ≤ k ∧ i = .int .i64 k ∧ f = .int .i64 q ∧ Hid (SP = l ++ splitL 10 ((s.data.toList.take k).drop q) (s.data.toList.drop k)) ∧ wr.ownsRow w.heap.size 9 1 v l.length (l.map fun l => Value.string (strOf l)) ∧ Below w.heap.size w wr) (fun _ _ i _ => s.size - (intOf i).toNat)
  case atStart => exact ⟨0, 0, [], Nat.zero_le _, Nat.le_refl _, Nat.le_refl _, rfl, rfl, by rw [hSP]; rfl, World.ownsRow_nil _ _ _ _, Below.refl _ _⟩
  case round =>
    obtain ⟨k, q, l, hk, hq, hll, rfl, rfl, hP, hown, hnx⟩ := hrel
    have hsize := hnx.size
    by_cases hlt : k < s.size
    · have hxs : ∀ w', (Instr.index 9 (.string s) (.int .i64 (k : Int))).run Tryd.prog w' = .ok (.int .u8 (s[k].toNat : Int)) w' := fun w' => ix_str w' s k hlt
      have ST := split_step 10 s.data.toList q k hq (by omega)
      rw [← get_data s k hlt] at ST
      have EX := hide (ext_eq s q k)
      generalize s[k] = b at *
      by_cases hb : b = 10
      · subst hb
        rw [if_pos rfl] at ST
        have HS := hide (hP.out.trans (by rw [ST]))
        clear ST hP
        go_wp2_with (at_builtin; refine wpList_append_own _ rfl _ _ 40 rfl w.heap.size 9 i0 (.string ByteArray.empty) 1 16 Tryd.underlying40 hi hz0 hz1 hz2 rfl (by decide) _ _ _ rfl (hown.alloc _) ⟨wr.heap.size, 0, none⟩ 1 1 [.string (s.extract q k)] rfl rfl (cell_one_new _ _ _) (fun x hx => by simp at hx; subst hx; rfl) (by unfold maxLen; omega) (by omega) (by simp; omega) ?_; intro v' w3 hown' hgrow3 hnil3)
        go_roundw
        case rel =>
          refine ⟨k + 1, k + 1, l ++ [(s.data.toList.take k).drop q], by omega, Nat.le_refl _, by simp; omega, by go_num, by go_num, ?_, ?_, (hnx.alloc hsize _).grown hgrow3 (by simp; omega) (fun j hj => (hown.lt j hj).1)⟩
          · show SP = _
            rw [HS.out, List.append_assoc]; rfl
          · rw [List.length_append, List.map_append, List.map_cons, List.map_nil, ← EX.out]; exact hown'
        case measure => simp [intOf]; omega
      · rw [if_neg hb] at ST
        have HS := hide (hP.out.trans (by rw [ST]))
        have hb' : ¬ (b.toNat : Int) = 10 := fun h => hb (UInt8.toNat_inj.1 (by show _ = 10; omega))
        clear ST hP
        go_wp2
        go_roundw
        case rel => exact ⟨k + 1, q, l, by omega, by omega, by omega, by go_num, rfl, HS.out, hown, hnx⟩
        case measure => simp [intOf]; omega
    · obtain rfl : k = s.size := by omega
      have HS : Hid (SP.dropLast = l) := by
        show _ = _
        rw [hP.out, show s.data.toList.drop s.size = [] from List.drop_eq_nil_of_le (by omega)]
        show (l ++ [_]).dropLast = l
        simp
      clear hP
      go_wp2
      go_ret
      refine ⟨_, rfl, ?_, hnx⟩
      rw [HS.out]; exact hown
def nlF (b : UInt8) : Bool := !decide (b = 10)
def olL (l : List UInt8) : List UInt8 := (l.take 100).filter nlF
theorem olL_no (l : List UInt8) : (10 : UInt8) ∉ olL l := by
  unfold olL
  intro h
  have := (List.mem_filter.1 h).2
  simp [nlF] at this
theorem olL_len (l : List UInt8) : (olL l).length ≤ 100 := Nat.le_trans (List.length_filter_le ..) (by simp; omega)
theorem ret_strY {a b : List UInt8} (h : a = b) : Ending.returned (.string (strOf a)) = .returned (.string (strOf b)) := by rw [h]
theorem one_ext (s : ByteArray) (k : Nat) (h : k < s.size) : s.extract k (k + 1) = strOf [s[k]] := by
  rw [ext_eq, get_data s k h, List.take_succ_eq_append_getElem (by rw [size_data]; exact h), List.drop_append_of_le_length (by simp; omega), List.drop_eq_nil_of_le (by simp; omega)]
  rfl
set_option maxHeartbeats 2000000 in
set_option maxRecDepth 100000 in
set_option linter.unusedSimpArgs false in
set_option linter.unusedVariables false in
/-- at most 100 bytes, without line feeds -/
theorem oneLine_any (s : ByteArray) (w : World) (hs : s.size ≤ 4611686018427387904) :
    Calls Tryd.prog 14 #[.string s] w fun e w' => e = .returned (.string (strOf (olL s.data.toList))) ∧ w = w' := by
  have hlS := size_data s
  go_enter Tryd.func14, Tryd.ntmps14
  go_wp2_with fail
  go_loop [3, 4] (fun v i => ∃ (k : Nat), k ≤ s.size ∧ k ≤ 100 ∧ i = .int .i64 k ∧ v = .string (strOf ((s.data.toList.take k).filter nlF))) (fun _ i => 100 - (intOf i).toNat)
  case atStart => exact ⟨0, Nat.zero_le _, Nat.zero_le _, rfl, rfl⟩
  case round =>
    obtain ⟨k, hk, hk2, rfl, rfl⟩ := hrel
    by_cases hlt : k < s.size
    case pos =>
      have hlt1 : (k : Int) < (s.size : Int) := by omega
      by_cases h100 : k < 100
      case pos =>
        have h1001 : (k : Int) < 100 := by omega
        have hxs : ∀ w', (Instr.index 9 (.string s) (.int .i64 (k : Int))).run Tryd.prog w' = .ok (.int .u8 (s[k].toNat : Int)) w' := fun w' => ix_str w' s k hlt
        have HF : Hid ((s.data.toList.take (k + 1)).filter nlF = (s.data.toList.take k).filter nlF ++ (if s[k] = 10 then [] else [s[k]])) := by
          show _ = _
          rw [List.take_succ_eq_append_getElem (by omega), List.filter_append, ← get_data s k hlt]
          congr 1
          by_cases e : s[k] = 10
          · rw [if_pos e, e]; rfl
          · rw [if_neg e]; simp [nlF, e]
        have HX := one_ext s k hlt
        have HL : ((s.data.toList.take k).filter nlF).length ≤ 1000000 := Nat.le_trans (List.length_filter_le ..) (by simp; omega)
        generalize s[k] = b at *
        generalize (s.data.toList.take k).filter nlF = T at *
        by_cases hb : b = 10
        · subst hb
          rw [if_pos rfl, List.append_nil] at HF
          go_wp2_with fail
          go_round
          case rel => exact ⟨k + 1, by omega, by omega, by go_num, by rw [HF.out]⟩
          case measure => simp [intOf]; omega
        · rw [if_neg hb] at HF
          have hb' : ¬ (b.toNat : Int) = 10 := fun h => hb (UInt8.toNat_inj.1 (by show _ = 10; omega))
          go_wp2_with (refine wpList_addY rfl (.tmp 19) (.tmp 24) rfl T [b] (T ++ [b]) rfl (by first | rfl | (rw [← HX]; rfl) | kernel_rfl) HL (by simp) rfl ?_)
          go_round
          case rel => exact ⟨k + 1, by omega, by omega, by go_num, by rw [HF.out]⟩
          case measure => simp [intOf]; omega
      case neg =>
        obtain rfl : k = 100 := by omega
        have HE : Hid ((s.data.toList.take 100).filter nlF = olL s.data.toList) := rfl
        go_wp2_with fail
        go_ret
        exact ⟨ret_strY HE.out, rfl⟩
    case neg =>
      have HE : Hid (olL s.data.toList = (s.data.toList.take k).filter nlF) := by
        show _ = _
        unfold olL
        rw [List.take_of_length_le (by omega), List.take_of_length_le (by omega)]
      have hge : ¬ (k : Int) < (s.size : Int) := by omega
      go_wp2_with fail
      go_ret
      exact ⟨ret_strY HE.out.symm, rfl⟩
end Go.Proofs.YtanlnelfbfjelaaDoor
