import Derived.Test.YtfpalfpfijcpbaaGreatDoorGPaRfB
import Derived.Test.YtfpalfpfijcpbaaGreatDoorGDjJoin
import Derived.Test.YtfpalfpfijcpbaaGreatDoorGPaPtr
import Derived.Test.YtfpalfpfijcpbaaGreatDoorPnRead
namespace Go.Proofs.YtfpalfpfijcpbaaGreatDoor
open Go.RowKit Go.Shelf
theorem pfx_one {en : ByteArray} {e : UInt8} (he : en.data.toList = [e]) {l : List UInt8} {k : Nat} (h : pfx en (l.drop k) = true) : k < l.length ∧ l[k]? = some e := by
  have h1 := pfx_le h
  rw [List.length_drop] at h1
  have h2 : en.size = 1 := by rw [← size_data, he]; rfl
  refine ⟨by omega, ?_⟩
  have h3 := List.isPrefixOf_iff_prefix.1 h
  obtain ⟨r, hr⟩ := h3
  have h4 : (l.drop k)[0]? = some e := by rw [← hr, he]; rfl
  rwa [List.getElem?_drop, Nat.add_zero] at h4
theorem dig_sep {c : UInt8} (h : isDig c = true) : isSep c = false := by
  unfold isDig at h
  unfold isSep
  simp at h
  have h1 : c ≠ 32 := fun e => by subst e; simp at h
  have h2 : c ≠ 10 := fun e => by subst e; simp at h
  simp [h1, h2]
theorem all_dig_sep {l : List UInt8} (h : l.all isDig = true) : l.all (fun c => !isSep c) = true := by
  rw [List.all_eq_true] at h ⊢
  intro c hc
  rw [dig_sep (h c hc)]; rfl
theorem numD_take (l : List UInt8) : numD l = l.take (numD l).length ∧ (numD l).all isDig = true := by
  have h1 : numD l <+: l := by unfold numD; exact (List.take_prefix _ _).trans (List.takeWhile_prefix _)
  refine ⟨List.prefix_iff_eq_take.1 h1, ?_⟩
  rw [List.all_eq_true]
  intro c hc
  unfold numD at hc
  have ht := List.all_takeWhile (p := isDig) (l := l)
  rw [List.all_eq_true] at ht
  exact ht c (List.mem_of_mem_take hc)
/-- a number that is read: in the program's way, in the document's -/
theorem num_same {en : ByteArray} {e : UInt8} (he : en.data.toList = [e]) (hse : isSep e = true) (hde : isDig e = false) (l : List UInt8) :
    (numOk (wordL l) && pfx en (l.drop (wordL l).length)) = (rnOk l && pfx en (l.drop (numD l).length)) ∧ ((numOk (wordL l) && pfx en (l.drop (wordL l).length)) = true → (wordL l).length = (numD l).length ∧ numV (wordL l) = rnV l) := by
  have zh : ∀ k, k ≤ l.length → 1 ≤ k → zeroHd (l.take k) = (decide (1 < k) && l.head? == some 48) := fun k hk h1 => by
    unfold zeroHd
    cases l with
    | nil => simp at hk; omega
    | cons c r =>
      obtain ⟨j, rfl⟩ : ∃ j, k = j + 1 := ⟨k - 1, by omega⟩
      rw [List.take_succ_cons]
      cases j with
      | zero => simp
      | succ j =>
        have : (r.take (j + 1)) ≠ [] := by
          intro h
          have h5 : (r.take (j + 1)).length = min (j + 1) r.length := List.length_take
          rw [h] at h5
          simp only [List.length_nil, List.length_cons] at h5 hk
          omega
        simp [this]
  have key : (numOk (wordL l) && pfx en (l.drop (wordL l).length)) = true → numD l = wordL l ∧ rnOk l = true := fun h => by
    rw [Bool.and_eq_true] at h
    have hw := wordL_take l
    have hl := wordL_le l
    obtain ⟨k, hk⟩ : ∃ k, k = (wordL l).length := ⟨_, rfl⟩
    rw [← hk] at hw hl h
    have hn := h.1
    unfold numOk at hn
    rw [Bool.and_eq_true, Bool.and_eq_true, Bool.and_eq_true] at hn
    obtain ⟨⟨⟨n1, n2⟩, n3⟩, n4⟩ := hn
    have l16 : k ≤ 16 := by rw [hk]; exact of_decide_eq_true n2
    have l1 : 1 ≤ k := by
      rw [hk]
      cases hq : wordL l with
      | nil => rw [hq] at n1; simp at n1
      | cons => simp
    rw [hw] at n4 n3
    have hD := numD_at n4 (by omega) hl (.inr (.inr ⟨e, (pfx_one he h.2).2, hde⟩))
    refine ⟨by rw [hD, ← hw], ?_⟩
    unfold rnOk
    rw [hD, List.length_take, show min k l.length = k by omega, decide_eq_true l1, decide_eq_true l16, ← zh k hl l1]
    exact n3
  have back : (rnOk l && pfx en (l.drop (numD l).length)) = true → wordL l = numD l ∧ numOk (wordL l) = true := fun h => by
    rw [Bool.and_eq_true] at h
    obtain ⟨d1, d2⟩ := numD_take l
    have hl : (numD l).length ≤ l.length := by rw [d1, List.length_take]; omega
    obtain ⟨k, hk⟩ : ∃ k, k = (numD l).length := ⟨_, rfl⟩
    rw [← hk] at d1 hl h
    rw [d1] at d2
    have hw : wordL l = l.take k := by
      unfold wordL
      exact takeWhile_take l k (all_dig_sep d2) (fun _ => ⟨e, (pfx_one he h.2).2, by rw [hse]; rfl⟩)
    refine ⟨by rw [hw, d1], ?_⟩
    have hr := h.1
    unfold rnOk at hr
    rw [← hk, Bool.and_eq_true, Bool.and_eq_true] at hr
    obtain ⟨⟨r1, r2⟩, r3⟩ := hr
    have l1 := of_decide_eq_true r1
    have l16 := of_decide_eq_true r2
    unfold numOk
    rw [hw, d2, zh k hl l1, r3, List.length_take, show min k l.length = k by omega, decide_eq_true l16]
    have : (l.take k).isEmpty = false := by
      rw [List.isEmpty_eq_false_iff]
      intro q
      have h5 : (l.take k).length = min k l.length := List.length_take
      rw [q] at h5
      simp only [List.length_nil] at h5
      omega
    rw [this]; rfl
  refine ⟨?_, fun h => ?_⟩
  · rw [Bool.eq_iff_iff]
    constructor
    · intro h
      obtain ⟨h1, h2⟩ := key h
      rw [Bool.and_eq_true] at h ⊢
      rw [h1]; exact ⟨h2, h.2⟩
    · intro h
      obtain ⟨h1, h2⟩ := back h
      rw [Bool.and_eq_true] at h ⊢
      exact ⟨h2, by rw [h1]; exact h.2⟩
  · obtain ⟨h1, h2⟩ := key h
    rw [Bool.and_eq_true] at h
    refine ⟨by rw [h1], ?_⟩
    unfold numV rnV
    rw [h.1, h2, h1]
/-- where the document's reader is, and is it bad; four numbers -/
structure RpS where
  a : Nat
  bad : Bool
def rLit (s tx : ByteArray) (q : RpS) : RpS := ⟨rlA s tx q.a q.bad, !rlOk s tx q.a q.bad⟩
def rNum (tx : ByteArray) (q : RpS) : RpS := ⟨q.a + (numD (tx.data.toList.drop q.a)).length, q.bad || !rnOk (tx.data.toList.drop q.a)⟩
def rVal (tx : ByteArray) (q : RpS) : Int := (rnV (tx.data.toList.drop q.a) : Int)
theorem rLit_le {s tx : ByteArray} {q : RpS} (h : q.a ≤ tx.size) : (rLit s tx q).a ≤ tx.size := rlA_le h
theorem rNum_le {tx : ByteArray} {q : RpS} (h : q.a ≤ tx.size) : (rNum tx q).a ≤ tx.size := by
  have h1 := (numD_take (tx.data.toList.drop q.a)).1
  have h2 : (numD (tx.data.toList.drop q.a)).length ≤ (tx.data.toList.drop q.a).length := by rw [h1, List.length_take]; omega
  rw [List.length_drop, size_data] at h2
  show q.a + _ ≤ _
  omega
/-- the stations of the document's ParsePointer -/
def q0 : RpS := ⟨0, false⟩
def q1 (tx : ByteArray) : RpS := rLit pS1 tx q0
def q2 (tx : ByteArray) : RpS := rNum tx (q1 tx)
def q3 (tx : ByteArray) : RpS := rLit pS2 tx (q2 tx)
def q4 (tx : ByteArray) : RpS := rNum tx (q3 tx)
def q5 (tx : ByteArray) : RpS := rLit pS3 tx (q4 tx)
def q6 (tx : ByteArray) : RpS := rNum tx (q5 tx)
def q7 (tx : ByteArray) : RpS := rLit pS4 tx (q6 tx)
def q8 (tx : ByteArray) : RpS := rNum tx (q7 tx)
def q9 (tx : ByteArray) : RpS := rLit nl tx (q8 tx)
/-- what the document's ParsePointer answers -/
def rpC (tx : ByteArray) : Int := rVal tx (q1 tx)
def rpP (tx : ByteArray) : Int := rVal tx (q3 tx)
def rpEp (tx : ByteArray) : Int := rVal tx (q5 tx)
def rpSq (tx : ByteArray) : Int := rVal tx (q7 tx)
def rpL (tx : ByteArray) : Int := lstE tx (q9 tx).a (q9 tx).bad
def rpErr (tx : ByteArray) : Int := if rpL tx = 0 then ptrE (rpC tx) (rpP tx) (rpEp tx) (rpSq tx) else rpL tx
def rpV (tx : ByteArray) (v : Int) : Int := if rpErr tx = 0 then v else 0
structure PS (Wa : World) (Q rc : Nat) (tx : ByteArray) (st : RpS) (c p e s : Int) (w : World) : Prop where
  old : Below Wa.heap.size Wa w
  rd : RfAt Q tx st.a st.bad w
  rcd : PtrAt w rc c p e s
  fz : ∀ o, o < 4 → w.frozen? ⟨rc, o, none⟩ = false
theorem PS.kb {Wa : World} {Q rc : Nat} {tx : ByteArray} {st : RpS} {c p e s : Int} {w w' : World} (h : PS Wa Q rc tx st c p e s w) (hk : Kb Q w w') (hQ : Wa.heap.size ≤ Q) (hn : rc ≠ Q) {st' : RpS} (hr : RfAt Q tx st'.a st'.bad w') : PS Wa Q rc tx st' c p e s w' :=
  ⟨hk.below h.old hQ h.old.size, hr, h.rcd.kb hk hn, fun o ho => by rw [hk.frozen h.rcd.lt hn]; exact h.fz o ho⟩
theorem PS.set {Wa : World} {Q rc : Nat} {tx : ByteArray} {st : RpS} {c p e s : Int} {w : World} (h : PS Wa Q rc tx st c p e s w) (hc : Wa.heap.size ≤ rc) (hn : rc ≠ Q) (o : Nat) (v : Int) : PS Wa Q rc tx st (if o = 0 then v else c) (if o = 1 then v else p) (if o = 2 then v else e) (if o = 3 then v else s) (w.setCell ⟨rc, o, none⟩ (.int .i64 v)) := by
  have k := Kb.set rc o w (.int .i64 v)
  obtain ⟨q0, q1, q2, q3⟩ := h.rcd
  have step : ∀ i (n : Int), w.cell? ⟨rc, i, none⟩ = some (.int .i64 n) → (w.setCell ⟨rc, o, none⟩ (.int .i64 v)).cell? ⟨rc, i, none⟩ = some (.int .i64 (if o = i then v else n)) := fun i n hq => by
    by_cases hi : o = i
    · subst hi; rw [if_pos rfl]; exact World.cell?_setCell_same w _ _ hq
    · rw [if_neg hi]; exact (World.cell?_setCell_other w _ _ _ (by intro e; injection e with _ e _; exact hi e)).trans hq
  have hR : RfAt Q tx st.a st.bad (w.setCell ⟨rc, o, none⟩ (.int .i64 v)) := by
    have hl := h.rd.lt
    obtain ⟨r0, r1, r2, r3, r4⟩ := h.rd
    exact ⟨by rw [k.cell hl hn.symm]; exact r0, by rw [k.cell hl hn.symm]; exact r1, by rw [k.cell hl hn.symm]; exact r2, by rw [k.frozen hl hn.symm]; exact r3, by rw [k.frozen hl hn.symm]; exact r4⟩
  refine ⟨k.below h.old hc h.old.size, hR, ⟨step 0 _ q0, step 1 _ q1, step 2 _ q2, step 3 _ q3⟩, fun o' ho => by rw [World.frozen?_setCell]; exact h.fz o' ho⟩
end Go.Proofs.YtfpalfpfijcpbaaGreatDoor
namespace Go.Proofs.YtfpalfpfijcpbaaGreatDoor
open Go.RowKit Go.Shelf
theorem pfx_app (x y : ByteArray) (l : List UInt8) : pfx (x ++ y) l = (pfx x l && pfx y (l.drop x.size)) := by
  unfold pfx
  rw [ba_app, ← size_data x]
  generalize x.data.toList = a
  generalize y.data.toList = b
  induction a generalizing l with
  | nil => simp
  | cons c r ih =>
    cases l with
    | nil => simp
    | cons d s =>
      simp only [List.cons_append, List.isPrefixOf_cons_cons, List.length_cons, List.drop_succ_cons, ih s, Bool.and_assoc]
theorem fld_num {f : FD} {e : UInt8} (hsh : f.sh = 0) (he : f.en.data.toList = [e]) (hse : isSep e = true) (hde : isDig e = false) (l : List UInt8) :
    fldOk f l = (pfx f.wd l && (rnOk (l.drop f.wd.size) && pfx f.en (l.drop (f.wd.size + (numD (l.drop f.wd.size)).length)))) ∧ (fldOk f l = true → fldN f l = f.wd.size + (numD (l.drop f.wd.size)).length + 1 ∧ (fldV f l).1 = (rnV (l.drop f.wd.size) : Int)) := by
  obtain ⟨s1, s2⟩ := num_same he hse hde (l.drop f.wd.size)
  have e1 : fldOk f l = (pfx f.wd l && (numOk (wordL (l.drop f.wd.size)) && pfx f.en ((l.drop f.wd.size).drop (wordL (l.drop f.wd.size)).length))) := by
    unfold fldOk fldW
    rw [hsh]; rfl
  rw [s1, List.drop_drop] at e1
  refine ⟨e1, fun h => ?_⟩
  rw [e1, Bool.and_eq_true] at h
  have s3 := s2 (by rw [s1, List.drop_drop]; exact h.2)
  have hes : f.en.size = 1 := by rw [← size_data, he]; rfl
  refine ⟨?_, ?_⟩
  · unfold fldN fldW; rw [s3.1, hes]
  · unfold fldV fldW
    rw [hsh]
    show (numV _ : Int) = _
    rw [s3.2]
/-- one number more, the document's way -/
theorem st_num {tx : ByteArray} {q : RpS} {P : Nat} {B : Bool} {f : FD} {e : UInt8} {y : ByteArray} (hsh : f.sh = 0) (he : f.en.data.toList = [e]) (hse : isSep e = true) (hde : isDig e = false)
    (h : q.bad = !(B && pfx f.wd (tx.data.toList.drop P))) (ha : (B && pfx f.wd (tx.data.toList.drop P)) = true → q.a = P + f.wd.size) :
    (rLit (f.en ++ y) tx (rNum tx q)).bad = !((B && fldOk f (tx.data.toList.drop P)) && pfx y (tx.data.toList.drop (P + fldN f (tx.data.toList.drop P)))) ∧
    (((B && fldOk f (tx.data.toList.drop P)) && pfx y (tx.data.toList.drop (P + fldN f (tx.data.toList.drop P)))) = true → (rLit (f.en ++ y) tx (rNum tx q)).a = P + fldN f (tx.data.toList.drop P) + y.size) ∧
    ((B && fldOk f (tx.data.toList.drop P)) = true → rVal tx q = (fldV f (tx.data.toList.drop P)).1) := by
  obtain ⟨f1, f2⟩ := fld_num hsh he hse hde (tx.data.toList.drop P)
  cases hB : (B && pfx f.wd (tx.data.toList.drop P)) with
  | false =>
    have hF : (B && fldOk f (tx.data.toList.drop P)) = false := by
      rw [f1, ← Bool.and_assoc, hB]; rfl
    rw [hB] at h
    have hb : (rNum tx q).bad = true := by show (q.bad || _) = true; rw [h]; rfl
    have hr : rlOk (f.en ++ y) tx (rNum tx q).a (rNum tx q).bad = false := by rw [hb]; rfl
    rw [hF]
    refine ⟨?_, (by intro z; cases z), (by intro z; cases z)⟩
    show (!rlOk (f.en ++ y) tx (rNum tx q).a (rNum tx q).bad) = _
    rw [hr]; rfl
  | true =>
    have hq := ha hB
    rw [hB] at h
    have hqb : q.bad = false := h
    rw [Bool.and_eq_true] at hB
    rw [hB.1, Bool.true_and]
    rw [hB.2, Bool.true_and, List.drop_drop, List.drop_drop] at f1
    rw [List.drop_drop] at f2
    have hn : (rNum tx q).a = P + (f.wd.size + (numD (tx.data.toList.drop (P + f.wd.size))).length) ∧ (rNum tx q).bad = !rnOk (tx.data.toList.drop (P + f.wd.size)) := by
      refine ⟨?_, ?_⟩
      · show q.a + _ = _; rw [hq]; omega
      · show (q.bad || _) = _; rw [hqb, hq]; rfl
    have hes : f.en.size = 1 := by rw [← size_data, he]; rfl
    have hok : rlOk (f.en ++ y) tx (rNum tx q).a (rNum tx q).bad = (fldOk f (tx.data.toList.drop P) && pfx y (tx.data.toList.drop (P + fldN f (tx.data.toList.drop P)))) := by
      unfold rlOk
      rw [hn.1, hn.2, Bool.not_not, pfx_app, ← Bool.and_assoc, ← f1, List.drop_drop, hes]
      cases hf : fldOk f (tx.data.toList.drop P) with
      | false => rfl
      | true => rw [(f2 hf).1]; rfl
    refine ⟨?_, fun z => ?_, fun z => ?_⟩
    · show (!rlOk (f.en ++ y) tx (rNum tx q).a (rNum tx q).bad) = _
      rw [hok]
    · show rlA (f.en ++ y) tx (rNum tx q).a (rNum tx q).bad = _
      rw [rlA_ok (by rw [hok]; exact z), hn.1, ByteArray.size_append, hes]
      rw [Bool.and_eq_true] at z
      rw [(f2 z.1).1]
      omega
    · rw [(f2 z).2]
      show (rnV (tx.data.toList.drop q.a) : Int) = _
      rw [hq]
def pW1 : ByteArray := ⟨#[99, 117, 114, 32]⟩
def pW2 : ByteArray := ⟨#[112, 114, 101, 118, 32]⟩
def pW3 : ByteArray := ⟨#[101, 112, 111, 99, 104, 32]⟩
def pW4 : ByteArray := ⟨#[115, 101, 113, 32]⟩
theorem empty_pfx (l : List UInt8) : pfx ⟨#[]⟩ l = true := by unfold pfx; rfl
/-- the program reads what the document reads -/
theorem ptr_same (tx : ByteArray) : (q9 tx).bad = !rpForm ptrTitle tx (ptrFDs 0) ∧ (rpForm ptrTitle tx (ptrFDs 0) = true → (q9 tx).a = rpA ptrTitle tx (ptrFDs 0) ∧ rpC tx = ptrRd tx 0 ∧ rpP tx = ptrRd tx 1 ∧ rpEp tx = ptrRd tx 2 ∧ rpSq tx = ptrRd tx 3) := by
  obtain ⟨f0, f1, f2, f3, hfs⟩ : ∃ f0 f1 f2 f3, ptrFDs 0 = [f0, f1, f2, f3] ∧ f0.wd = pW1 ∧ f1.wd = pW2 ∧ f2.wd = pW3 ∧ f3.wd = pW4 ∧ (f0.sh = 0 ∧ f1.sh = 0 ∧ f2.sh = 0 ∧ f3.sh = 0) ∧ f0.en = nl ∧ f1.en = nl ∧ f2.en = nl ∧ f3.en = nl := ⟨_, _, _, _, rfl, rfl, rfl, rfl, rfl, ⟨rfl, rfl, rfl, rfl⟩, rfl, rfl, rfl, rfl⟩
  obtain ⟨hF, w0, w1, w2, w3, ⟨s0, s1, s2, s3⟩, n0, n1, n2, n3⟩ := hfs
  have hnl : nl.data.toList = [10] := rfl
  obtain ⟨P0, hP0⟩ : ∃ P, P = ptrTitle.size := ⟨_, rfl⟩
  obtain ⟨P1, hP1⟩ : ∃ P, P = P0 + fldN f0 (tx.data.toList.drop P0) := ⟨_, rfl⟩
  obtain ⟨P2, hP2⟩ : ∃ P, P = P1 + fldN f1 (tx.data.toList.drop P1) := ⟨_, rfl⟩
  obtain ⟨P3, hP3⟩ : ∃ P, P = P2 + fldN f2 (tx.data.toList.drop P2) := ⟨_, rfl⟩
  obtain ⟨P4, hP4⟩ : ∃ P, P = P3 + fldN f3 (tx.data.toList.drop P3) := ⟨_, rfl⟩
  -- the program's form
  have hForm : rpForm ptrTitle tx (ptrFDs 0) = (pfx ptrTitle tx.data.toList && (fldOk f0 (tx.data.toList.drop P0) && (fldOk f1 (tx.data.toList.drop P1) && (fldOk f2 (tx.data.toList.drop P2) && fldOk f3 (tx.data.toList.drop P3))))) := by
    unfold rpForm
    rw [hF, ← hP0]
    simp only [tabOk, List.drop_drop, ← hP1, ← hP2, ← hP3, Bool.and_true]
  have hA : rpA ptrTitle tx (ptrFDs 0) = P4 := by
    unfold rpA
    rw [hF, ← hP0]
    simp only [tabN, List.drop_drop, ← hP1, ← hP2, ← hP3]
    omega
  have hVs : rpVs ptrTitle tx (ptrFDs 0) = [fldV f0 (tx.data.toList.drop P0), fldV f1 (tx.data.toList.drop P1), fldV f2 (tx.data.toList.drop P2), fldV f3 (tx.data.toList.drop P3)] := by
    unfold rpVs
    rw [hF, ← hP0]
    simp only [tabVs, List.drop_drop, ← hP1, ← hP2, ← hP3]
  -- the document's stations
  have a1 : (q1 tx).bad = !(pfx ptrTitle tx.data.toList && pfx f0.wd (tx.data.toList.drop P0)) ∧ ((pfx ptrTitle tx.data.toList && pfx f0.wd (tx.data.toList.drop P0)) = true → (q1 tx).a = P0 + f0.wd.size) := by
    have e : pS1 = ptrTitle ++ pW1 := by decide
    have e2 : rlOk pS1 tx 0 false = (pfx ptrTitle tx.data.toList && pfx f0.wd (tx.data.toList.drop P0)) := by
      unfold rlOk; rw [e, pfx_app, List.drop_zero, w0, ← hP0]; rfl
    refine ⟨?_, fun h => ?_⟩
    · show (!rlOk pS1 tx 0 false) = _; rw [e2]
    · show rlA pS1 tx 0 false = _; rw [rlA_ok (by rw [e2]; exact h), e, ByteArray.size_append, w0, ← hP0]; omega
  have b1 := st_num (y := pW2) s0 (by rw [n0]; exact hnl) rfl rfl a1.1 a1.2
  rw [← hP1, n0, show nl ++ pW2 = pS2 from by decide, ← w1] at b1
  have b3 := st_num (y := pW3) s1 (by rw [n1]; exact hnl) rfl rfl b1.1 b1.2.1
  rw [← hP2, n1, show nl ++ pW3 = pS3 from by decide, ← w2] at b3
  have b5 := st_num (y := pW4) s2 (by rw [n2]; exact hnl) rfl rfl b3.1 b3.2.1
  rw [← hP3, n2, show nl ++ pW4 = pS4 from by decide, ← w3] at b5
  have b7 := st_num (y := ⟨#[]⟩) s3 (by rw [n3]; exact hnl) rfl rfl b5.1 b5.2.1
  rw [← hP4, n3, show nl ++ ⟨#[]⟩ = nl from by decide, empty_pfx, Bool.and_true] at b7
  have hFm : rpForm ptrTitle tx (ptrFDs 0) = ((((pfx ptrTitle tx.data.toList && fldOk f0 (tx.data.toList.drop P0)) && fldOk f1 (tx.data.toList.drop P1)) && fldOk f2 (tx.data.toList.drop P2)) && fldOk f3 (tx.data.toList.drop P3)) := by
    rw [hForm, Bool.and_assoc, Bool.and_assoc, Bool.and_assoc]
  refine ⟨by rw [hFm]; exact b7.1, fun h => ?_⟩
  rw [hFm] at h
  have h4 := h
  rw [Bool.and_eq_true] at h
  have h3 := h.1
  rw [Bool.and_eq_true] at h
  have h2 := h3
  rw [Bool.and_eq_true] at h2
  have h2' := h2.1
  have h1 := h2'
  rw [Bool.and_eq_true] at h1
  refine ⟨?_, ?_, ?_, ?_, ?_⟩
  · rw [hA]; exact b7.2.1 h4
  · unfold ptrRd vN; rw [hVs]; exact b1.2.2 h1.1
  · unfold ptrRd vN; rw [hVs]; exact b3.2.2 h2'
  · unfold ptrRd vN; rw [hVs]; exact b5.2.2 h3
  · unfold ptrRd vN; rw [hVs]; exact b7.2.2 h4
theorem ptr_err (tx : ByteArray) : rpErr tx = ptrPE tx ∧ rpV tx (rpC tx) = ptrPV tx 0 ∧ rpV tx (rpP tx) = ptrPV tx 1 ∧ rpV tx (rpEp tx) = ptrPV tx 2 ∧ rpV tx (rpSq tx) = ptrPV tx 3 := by
  obtain ⟨h1, h2⟩ := ptr_same tx
  have hE : rpErr tx = ptrPE tx := by
    unfold rpErr ptrPE rpE rpL lstE
    cases hf : rpForm ptrTitle tx (ptrFDs 0) with
    | false =>
      rw [hf] at h1
      rw [h1]
      rfl
    | true =>
      obtain ⟨g1, g2, g3, g4, g5⟩ := h2 hf
      rw [hf] at h1
      rw [h1, g1, g2, g3, g4, g5]
      unfold ptrE
      rfl
  have hV : ∀ v i, (rpForm ptrTitle tx (ptrFDs 0) = true → v = ptrRd tx i) → rpV tx v = ptrPV tx i := fun v i hv => by
    unfold rpV ptrPV
    rw [hE]
    by_cases hz : ptrPE tx = 0
    · rw [if_pos hz, if_pos hz]
      apply hv
      cases hf : rpForm ptrTitle tx (ptrFDs 0) with
      | true => rfl
      | false =>
        unfold ptrPE rpE at hz
        rw [hf] at hz
        simp at hz
    · rw [if_neg hz, if_neg hz]
  exact ⟨hE, hV _ 0 (fun h => (h2 h).2.1), hV _ 1 (fun h => (h2 h).2.2.1), hV _ 2 (fun h => (h2 h).2.2.2.1), hV _ 3 (fun h => (h2 h).2.2.2.2)⟩
end Go.Proofs.YtfpalfpfijcpbaaGreatDoor
namespace Go.Proofs.YtfpalfpfijcpbaaGreatDoor
open Go.RowKit Go.Shelf
/-- the stations of the document's note -/
def m0 (a : Nat) : RpS := ⟨a, false⟩
def m1 (tx : ByteArray) (a : Nat) : RpS := rNum tx (m0 a)
def m2 (tx : ByteArray) (a : Nat) : RpS := rLit bl tx (m1 tx a)
def m3 (tx : ByteArray) (a : Nat) : RpS := rNum tx (m2 tx a)
def m4 (tx : ByteArray) (a : Nat) : RpS := rLit bl tx (m3 tx a)
def m5 (tx : ByteArray) (a : Nat) : RpS := rNum tx (m4 tx a)
def m6 (tx : ByteArray) (a : Nat) : RpS := rLit bl tx (m5 tx a)
/-- what the document's note reads -/
def ntC (tx : ByteArray) (a : Nat) : Int := rVal tx (m0 a)
def ntP (tx : ByteArray) (a : Nat) : Int := rVal tx (m2 tx a)
def ntU (tx : ByteArray) (a : Nat) : Int := rVal tx (m4 tx a)
def ntX (tx : ByteArray) (a : Nat) : Int := (rsV (m6 tx a).bad (tx.data.toList.drop (m6 tx a).a) : Int)
def ntB (tx : ByteArray) (a : Nat) : Bool := rbOk (m6 tx a).bad 4 (tx.data.toList.drop (m6 tx a).a)
def ntT (tx : ByteArray) (a : Nat) : ByteArray := noteS (ntC tx a) (ntP tx a) (ntU tx a) (ntX tx a)
def rtOk (tx : ByteArray) (a : Nat) : Bool := ntB tx a && (noteOk (ntC tx a) (ntP tx a) (ntU tx a) (ntX tx a) && pfx (ntT tx a) (tx.data.toList.drop a))
def rtV (tx : ByteArray) (a : Nat) (v : Int) : Int := if rtOk tx a then v else 0
def rtSize (tx : ByteArray) (a : Nat) : Nat := if rtOk tx a then (ntT tx a).size else 0
theorem NoteAt.lt' {w : World} {rb : Nat} {c p e s : Int} (h : NoteAt w rb c p e s) : rb < w.heap.size := lt_of_cell? h.1
structure NS (Wa : World) (Q rc : Nat) (tx : ByteArray) (st : RpS) (c p e s : Int) (w : World) : Prop where
  old : Kb Q Wa w
  rd : RfAt Q tx st.a st.bad w
  rcd : NoteAt w rc c p e s
  fz : ∀ o, o < 4 → w.frozen? ⟨rc, o, none⟩ = false
theorem NS.kb {Wa : World} {Q rc : Nat} {tx : ByteArray} {st : RpS} {c p e s : Int} {w w' : World} (h : NS Wa Q rc tx st c p e s w) (hk : Kb Q w w') (hn : rc ≠ Q) {st' : RpS} (hr : RfAt Q tx st'.a st'.bad w') : NS Wa Q rc tx st' c p e s w' :=
  ⟨h.old.trans hk, hr, h.rcd.kb hk hn, fun o ho => by rw [hk.frozen h.rcd.lt' hn]; exact h.fz o ho⟩
theorem NS.set {Wa : World} {Q rc : Nat} {tx : ByteArray} {st : RpS} {c p e s : Int} {w : World} (h : NS Wa Q rc tx st c p e s w) (hc : Wa.heap.size ≤ rc) (hn : rc ≠ Q) (o : Nat) (v : Int) : NS Wa Q rc tx st (if o = 0 then v else c) (if o = 1 then v else p) (if o = 2 then v else e) (if o = 3 then v else s) (w.setCell ⟨rc, o, none⟩ (.int .i64 v)) := by
  have k := Kb.set rc o w (.int .i64 v)
  obtain ⟨q0, q1, q2, q3⟩ := h.rcd
  have step : ∀ i (n : Int), w.cell? ⟨rc, i, none⟩ = some (.int .i64 n) → (w.setCell ⟨rc, o, none⟩ (.int .i64 v)).cell? ⟨rc, i, none⟩ = some (.int .i64 (if o = i then v else n)) := fun i n hq => by
    by_cases hi : o = i
    · subst hi; rw [if_pos rfl]; exact World.cell?_setCell_same w _ _ hq
    · rw [if_neg hi]; exact (World.cell?_setCell_other w _ _ _ (by intro e; injection e with _ e _; exact hi e)).trans hq
  have hR : RfAt Q tx st.a st.bad (w.setCell ⟨rc, o, none⟩ (.int .i64 v)) := by
    have hl := h.rd.lt
    obtain ⟨r0, r1, r2, r3, r4⟩ := h.rd
    exact ⟨by rw [k.cell hl hn.symm]; exact r0, by rw [k.cell hl hn.symm]; exact r1, by rw [k.cell hl hn.symm]; exact r2, by rw [k.frozen hl hn.symm]; exact r3, by rw [k.frozen hl hn.symm]; exact r4⟩
  refine ⟨h.old.late rc o _ hc, hR, ⟨step 0 _ q0, step 1 _ q1, step 2 _ q2, step 3 _ q3⟩, fun o' ho => by rw [World.frozen?_setCell]; exact h.fz o' ho⟩
theorem noteS_len (c p e s : Int) (hc : I64 c) (hp : I64 p) (he : I64 e) : (noteS c p e s).size ≤ 100 := by
  unfold noteS
  split
  · have z1 := itoa_len c hc.1 hc.2
    have z2 := itoa_len p hp.1 hp.2
    have z3 := itoa_len e he.1 he.2
    rw [ByteArray.size_append, strOf_size, strOf_size, sealL_len]
    unfold noteL
    simp only [List.length_append, hexL_len, List.length_nil, List.length_cons]
    have : (be4 s.toNat).length = 4 := rfl
    show _ + (0 + 9) ≤ 100
    omega
  · decide
theorem rVal_i64 (tx : ByteArray) (q : RpS) : I64 (rVal tx q) := by
  have h : rnV (tx.data.toList.drop q.a) < 10 ^ 17 := by
    unfold rnV
    split
    · obtain ⟨h1, h2⟩ := numD_take (tx.data.toList.drop q.a)
      have h3 : (numD (tx.data.toList.drop q.a)).length ≤ 17 := by unfold numD; rw [List.length_take]; omega
      have h4 : (numD (tx.data.toList.drop q.a)).length ≤ (tx.data.toList.drop q.a).length := by rw [h1, List.length_take]; omega
      have := valD_lt (tx.data.toList.drop q.a) _ h4 (by rw [← h1]; exact h2)
      rw [← h1] at this
      exact Nat.lt_of_lt_of_le this (Nat.pow_le_pow_right (by omega) h3)
    · decide
  have e : (10 : Nat) ^ 17 = 100000000000000000 := rfl
  unfold I64 rVal
  omega
end Go.Proofs.YtfpalfpfijcpbaaGreatDoor
