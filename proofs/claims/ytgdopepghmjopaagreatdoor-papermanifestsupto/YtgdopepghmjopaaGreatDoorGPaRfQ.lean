import Derived.Test.YtgdopepghmjopaaGreatDoorGPaRfB
import Derived.Test.YtgdopepghmjopaaGreatDoorGDaAlg
import Derived.Test.YtgdopepghmjopaaGreatDoorGPaReads
import Derived.Laws.AppendOwnNone
import Derived.OwnWalk
namespace Go.Proofs.YtgdopepghmjopaaGreatDoor
open Go.RowKit Go.Shelf
theorem pfx_one {en : ByteArray} {e : UInt8} (he : en.data.toList = [e]) {l : List UInt8} {k : Nat} (h : pfx en (l.drop k) = true) : k < l.length ∧ l[k]? = some e := by
  have h1 := pfx_le h
  rw [List.length_drop] at h1
  have h2 : en.size = 1 := by rw [← size_data, he]; rfl
  refine ⟨by omega, ?_⟩
  have h3 := List.isPrefixOf_iff_prefix.1 h
  obtain ⟨r, hr⟩ := h3
  have h4 : (l.drop k)[0]? = some e := by rw [← hr, he]; rfl
  rwa [List.getElem?_drop, Nat.add_zero] at h4
theorem dig_sep {c : UInt8} (h : isDig c = true) : isSep c = false := by
  unfold isDig at h
  unfold isSep
  simp at h
  have h1 : c ≠ 32 := fun e => by subst e; simp at h
  have h2 : c ≠ 10 := fun e => by subst e; simp at h
  simp [h1, h2]
theorem all_dig_sep {l : List UInt8} (h : l.all isDig = true) : l.all (fun c => !isSep c) = true := by
  rw [List.all_eq_true] at h ⊢
  intro c hc
  rw [dig_sep (h c hc)]; rfl
theorem numD_take (l : List UInt8) : numD l = l.take (numD l).length ∧ (numD l).all isDig = true := by
  have h1 : numD l <+: l := by unfold numD; exact (List.take_prefix _ _).trans (List.takeWhile_prefix _)
  refine ⟨List.prefix_iff_eq_take.1 h1, ?_⟩
  rw [List.all_eq_true]
  intro c hc
  unfold numD at hc
  have ht := List.all_takeWhile (p := isDig) (l := l)
  rw [List.all_eq_true] at ht
  exact ht c (List.mem_of_mem_take hc)
/-- a number that is read: in the program's way, in the document's -/
theorem num_same {en : ByteArray} {e : UInt8} (he : en.data.toList = [e]) (hse : isSep e = true) (hde : isDig e = false) (l : List UInt8) :
    (numOk (wordL l) && pfx en (l.drop (wordL l).length)) = (rnOk l && pfx en (l.drop (numD l).length)) ∧ ((numOk (wordL l) && pfx en (l.drop (wordL l).length)) = true → (wordL l).length = (numD l).length ∧ numV (wordL l) = rnV l) := by
  have zh : ∀ k, k ≤ l.length → 1 ≤ k → zeroHd (l.take k) = (decide (1 < k) && l.head? == some 48) := fun k hk h1 => by
    unfold zeroHd
    cases l with
    | nil => simp at hk; omega
    | cons c r =>
      obtain ⟨j, rfl⟩ : ∃ j, k = j + 1 := ⟨k - 1, by omega⟩
      rw [List.take_succ_cons]
      cases j with
      | zero => simp
      | succ j =>
        have : (r.take (j + 1)) ≠ [] := by
          intro h
          have h5 : (r.take (j + 1)).length = min (j + 1) r.length := List.length_take
          rw [h] at h5
          simp only [List.length_nil, List.length_cons] at h5 hk
          omega
        simp [this]
  have key : (numOk (wordL l) && pfx en (l.drop (wordL l).length)) = true → numD l = wordL l ∧ rnOk l = true := fun h => by
    rw [Bool.and_eq_true] at h
    have hw := wordL_take l
    have hl := wordL_le l
    obtain ⟨k, hk⟩ : ∃ k, k = (wordL l).length := ⟨_, rfl⟩
    rw [← hk] at hw hl h
    have hn := h.1
    unfold numOk at hn
    rw [Bool.and_eq_true, Bool.and_eq_true, Bool.and_eq_true] at hn
    obtain ⟨⟨⟨n1, n2⟩, n3⟩, n4⟩ := hn
    have l16 : k ≤ 16 := by rw [hk]; exact of_decide_eq_true n2
    have l1 : 1 ≤ k := by
      rw [hk]
      cases hq : wordL l with
      | nil => rw [hq] at n1; simp at n1
      | cons => simp
    rw [hw] at n4 n3
    have hD := numD_at n4 (by omega) hl (.inr (.inr ⟨e, (pfx_one he h.2).2, hde⟩))
    refine ⟨by rw [hD, ← hw], ?_⟩
    unfold rnOk
    rw [hD, List.length_take, show min k l.length = k by omega, decide_eq_true l1, decide_eq_true l16, ← zh k hl l1]
    exact n3
  have back : (rnOk l && pfx en (l.drop (numD l).length)) = true → wordL l = numD l ∧ numOk (wordL l) = true := fun h => by
    rw [Bool.and_eq_true] at h
    obtain ⟨d1, d2⟩ := numD_take l
    have hl : (numD l).length ≤ l.length := by rw [d1, List.length_take]; omega
    obtain ⟨k, hk⟩ : ∃ k, k = (numD l).length := ⟨_, rfl⟩
    rw [← hk] at d1 hl h
    rw [d1] at d2
    have hw : wordL l = l.take k := by
      unfold wordL
      exact takeWhile_take l k (all_dig_sep d2) (fun _ => ⟨e, (pfx_one he h.2).2, by rw [hse]; rfl⟩)
    refine ⟨by rw [hw, d1], ?_⟩
    have hr := h.1
    unfold rnOk at hr
    rw [← hk, Bool.and_eq_true, Bool.and_eq_true] at hr
    obtain ⟨⟨r1, r2⟩, r3⟩ := hr
    have l1 := of_decide_eq_true r1
    have l16 := of_decide_eq_true r2
    unfold numOk
    rw [hw, d2, zh k hl l1, r3, List.length_take, show min k l.length = k by omega, decide_eq_true l16]
    have : (l.take k).isEmpty = false := by
      rw [List.isEmpty_eq_false_iff]
      intro q
      have h5 : (l.take k).length = min k l.length := List.length_take
      rw [q] at h5
      simp only [List.length_nil] at h5
      omega
    rw [this]; rfl
  refine ⟨?_, fun h => ?_⟩
  · rw [Bool.eq_iff_iff]
    constructor
    · intro h
      obtain ⟨h1, h2⟩ := key h
      rw [Bool.and_eq_true] at h ⊢
      rw [h1]; exact ⟨h2, h.2⟩
    · intro h
      obtain ⟨h1, h2⟩ := back h
      rw [Bool.and_eq_true] at h ⊢
      exact ⟨h2, by rw [h1]; exact h.2⟩
  · obtain ⟨h1, h2⟩ := key h
    rw [Bool.and_eq_true] at h
    refine ⟨by rw [h1], ?_⟩
    unfold numV rnV
    rw [h.1, h2, h1]
/-- where the document's reader is, and is it bad; four numbers -/
structure RpS where
  a : Nat
  bad : Bool
def rLit (s tx : ByteArray) (q : RpS) : RpS := ⟨rlA s tx q.a q.bad, !rlOk s tx q.a q.bad⟩
def rNum (tx : ByteArray) (q : RpS) : RpS := ⟨q.a + (numD (tx.data.toList.drop q.a)).length, q.bad || !rnOk (tx.data.toList.drop q.a)⟩
def rVal (tx : ByteArray) (q : RpS) : Int := (rnV (tx.data.toList.drop q.a) : Int)
theorem rLit_le {s tx : ByteArray} {q : RpS} (h : q.a ≤ tx.size) : (rLit s tx q).a ≤ tx.size := rlA_le h
theorem rNum_le {tx : ByteArray} {q : RpS} (h : q.a ≤ tx.size) : (rNum tx q).a ≤ tx.size := by
  have h1 := (numD_take (tx.data.toList.drop q.a)).1
  have h2 : (numD (tx.data.toList.drop q.a)).length ≤ (tx.data.toList.drop q.a).length := by rw [h1, List.length_take]; omega
  rw [List.length_drop, size_data] at h2
  show q.a + _ ≤ _
  omega
/-- the stations of the document's ParsePointer -/
def q0 : RpS := ⟨0, false⟩
def q1 (tx : ByteArray) : RpS := rLit pS1 tx q0
def q2 (tx : ByteArray) : RpS := rNum tx (q1 tx)
def q3 (tx : ByteArray) : RpS := rLit pS2 tx (q2 tx)
def q4 (tx : ByteArray) : RpS := rNum tx (q3 tx)
def q5 (tx : ByteArray) : RpS := rLit pS3 tx (q4 tx)
def q6 (tx : ByteArray) : RpS := rNum tx (q5 tx)
def q7 (tx : ByteArray) : RpS := rLit pS4 tx (q6 tx)
def q8 (tx : ByteArray) : RpS := rNum tx (q7 tx)
def q9 (tx : ByteArray) : RpS := rLit nl tx (q8 tx)
/-- what the document's ParsePointer answers -/
def rpC (tx : ByteArray) : Int := rVal tx (q1 tx)
def rpP (tx : ByteArray) : Int := rVal tx (q3 tx)
def rpEp (tx : ByteArray) : Int := rVal tx (q5 tx)
def rpSq (tx : ByteArray) : Int := rVal tx (q7 tx)
def rpL (tx : ByteArray) : Int := lstE tx (q9 tx).a (q9 tx).bad
def rpErr (tx : ByteArray) : Int := if rpL tx = 0 then ptrE (rpC tx) (rpP tx) (rpEp tx) (rpSq tx) else rpL tx
def rpV (tx : ByteArray) (v : Int) : Int := if rpErr tx = 0 then v else 0
structure PS (Wa : World) (Q rc : Nat) (tx : ByteArray) (st : RpS) (c p e s : Int) (w : World) : Prop where
  old : Below Wa.heap.size Wa w
  rd : RfAt Q tx st.a st.bad w
  rcd : PtrAt w rc c p e s
  fz : ∀ o, o < 4 → w.frozen? ⟨rc, o, none⟩ = false
theorem PS.kb {Wa : World} {Q rc : Nat} {tx : ByteArray} {st : RpS} {c p e s : Int} {w w' : World} (h : PS Wa Q rc tx st c p e s w) (hk : Kb Q w w') (hQ : Wa.heap.size ≤ Q) (hn : rc ≠ Q) {st' : RpS} (hr : RfAt Q tx st'.a st'.bad w') : PS Wa Q rc tx st' c p e s w' :=
  ⟨hk.below h.old hQ h.old.size, hr, h.rcd.kb hk hn, fun o ho => by rw [hk.frozen h.rcd.lt hn]; exact h.fz o ho⟩
theorem PS.set {Wa : World} {Q rc : Nat} {tx : ByteArray} {st : RpS} {c p e s : Int} {w : World} (h : PS Wa Q rc tx st c p e s w) (hc : Wa.heap.size ≤ rc) (hn : rc ≠ Q) (o : Nat) (v : Int) : PS Wa Q rc tx st (if o = 0 then v else c) (if o = 1 then v else p) (if o = 2 then v else e) (if o = 3 then v else s) (w.setCell ⟨rc, o, none⟩ (.int .i64 v)) := by
  have k := Kb.set rc o w (.int .i64 v)
  obtain ⟨q0, q1, q2, q3⟩ := h.rcd
  have step : ∀ i (n : Int), w.cell? ⟨rc, i, none⟩ = some (.int .i64 n) → (w.setCell ⟨rc, o, none⟩ (.int .i64 v)).cell? ⟨rc, i, none⟩ = some (.int .i64 (if o = i then v else n)) := fun i n hq => by
    by_cases hi : o = i
    · subst hi; rw [if_pos rfl]; exact World.cell?_setCell_same w _ _ hq
    · rw [if_neg hi]; exact (World.cell?_setCell_other w _ _ _ (by intro e; injection e with _ e _; exact hi e)).trans hq
  have hR : RfAt Q tx st.a st.bad (w.setCell ⟨rc, o, none⟩ (.int .i64 v)) := by
    have hl := h.rd.lt
    obtain ⟨r0, r1, r2, r3, r4⟩ := h.rd
    exact ⟨by rw [k.cell hl hn.symm]; exact r0, by rw [k.cell hl hn.symm]; exact r1, by rw [k.cell hl hn.symm]; exact r2, by rw [k.frozen hl hn.symm]; exact r3, by rw [k.frozen hl hn.symm]; exact r4⟩
  refine ⟨k.below h.old hc h.old.size, hR, ⟨step 0 _ q0, step 1 _ q1, step 2 _ q2, step 3 _ q3⟩, fun o' ho => by rw [World.frozen?_setCell]; exact h.fz o' ho⟩
end Go.Proofs.YtgdopepghmjopaaGreatDoor
namespace Go.Proofs.YtgdopepghmjopaaGreatDoor
open Go.RowKit Go.Shelf
theorem pfx_app (x y : ByteArray) (l : List UInt8) : pfx (x ++ y) l = (pfx x l && pfx y (l.drop x.size)) := by
  unfold pfx
  rw [ba_app, ← size_data x]
  generalize x.data.toList = a
  generalize y.data.toList = b
  induction a generalizing l with
  | nil => simp
  | cons c r ih =>
    cases l with
    | nil => simp
    | cons d s =>
      simp only [List.cons_append, List.isPrefixOf_cons_cons, List.length_cons, List.drop_succ_cons, ih s, Bool.and_assoc]
theorem fld_num {f : FD} {e : UInt8} (hsh : f.sh = 0) (he : f.en.data.toList = [e]) (hse : isSep e = true) (hde : isDig e = false) (l : List UInt8) :
    fldOk f l = (pfx f.wd l && (rnOk (l.drop f.wd.size) && pfx f.en (l.drop (f.wd.size + (numD (l.drop f.wd.size)).length)))) ∧ (fldOk f l = true → fldN f l = f.wd.size + (numD (l.drop f.wd.size)).length + 1 ∧ (fldV f l).1 = (rnV (l.drop f.wd.size) : Int)) := by
  obtain ⟨s1, s2⟩ := num_same he hse hde (l.drop f.wd.size)
  have e1 : fldOk f l = (pfx f.wd l && (numOk (wordL (l.drop f.wd.size)) && pfx f.en ((l.drop f.wd.size).drop (wordL (l.drop f.wd.size)).length))) := by
    unfold fldOk fldW
    rw [hsh]; rfl
  rw [s1, List.drop_drop] at e1
  refine ⟨e1, fun h => ?_⟩
  rw [e1, Bool.and_eq_true] at h
  have s3 := s2 (by rw [s1, List.drop_drop]; exact h.2)
  have hes : f.en.size = 1 := by rw [← size_data, he]; rfl
  refine ⟨?_, ?_⟩
  · unfold fldN fldW; rw [s3.1, hes]
  · unfold fldV fldW
    rw [hsh]
    show (numV _ : Int) = _
    rw [s3.2]
/-- one number more, the document's way -/
theorem st_num {tx : ByteArray} {q : RpS} {P : Nat} {B : Bool} {f : FD} {e : UInt8} {y : ByteArray} (hsh : f.sh = 0) (he : f.en.data.toList = [e]) (hse : isSep e = true) (hde : isDig e = false)
    (h : q.bad = !(B && pfx f.wd (tx.data.toList.drop P))) (ha : (B && pfx f.wd (tx.data.toList.drop P)) = true → q.a = P + f.wd.size) :
    (rLit (f.en ++ y) tx (rNum tx q)).bad = !((B && fldOk f (tx.data.toList.drop P)) && pfx y (tx.data.toList.drop (P + fldN f (tx.data.toList.drop P)))) ∧
    (((B && fldOk f (tx.data.toList.drop P)) && pfx y (tx.data.toList.drop (P + fldN f (tx.data.toList.drop P)))) = true → (rLit (f.en ++ y) tx (rNum tx q)).a = P + fldN f (tx.data.toList.drop P) + y.size) ∧
    ((B && fldOk f (tx.data.toList.drop P)) = true → rVal tx q = (fldV f (tx.data.toList.drop P)).1) := by
  obtain ⟨f1, f2⟩ := fld_num hsh he hse hde (tx.data.toList.drop P)
  cases hB : (B && pfx f.wd (tx.data.toList.drop P)) with
  | false =>
    have hF : (B && fldOk f (tx.data.toList.drop P)) = false := by
      rw [f1, ← Bool.and_assoc, hB]; rfl
    rw [hB] at h
    have hb : (rNum tx q).bad = true := by show (q.bad || _) = true; rw [h]; rfl
    have hr : rlOk (f.en ++ y) tx (rNum tx q).a (rNum tx q).bad = false := by rw [hb]; rfl
    rw [hF]
    refine ⟨?_, (by intro z; cases z), (by intro z; cases z)⟩
    show (!rlOk (f.en ++ y) tx (rNum tx q).a (rNum tx q).bad) = _
    rw [hr]; rfl
  | true =>
    have hq := ha hB
    rw [hB] at h
    have hqb : q.bad = false := h
    rw [Bool.and_eq_true] at hB
    rw [hB.1, Bool.true_and]
    rw [hB.2, Bool.true_and, List.drop_drop, List.drop_drop] at f1
    rw [List.drop_drop] at f2
    have hn : (rNum tx q).a = P + (f.wd.size + (numD (tx.data.toList.drop (P + f.wd.size))).length) ∧ (rNum tx q).bad = !rnOk (tx.data.toList.drop (P + f.wd.size)) := by
      refine ⟨?_, ?_⟩
      · show q.a + _ = _; rw [hq]; omega
      · show (q.bad || _) = _; rw [hqb, hq]; rfl
    have hes : f.en.size = 1 := by rw [← size_data, he]; rfl
    have hok : rlOk (f.en ++ y) tx (rNum tx q).a (rNum tx q).bad = (fldOk f (tx.data.toList.drop P) && pfx y (tx.data.toList.drop (P + fldN f (tx.data.toList.drop P)))) := by
      unfold rlOk
      rw [hn.1, hn.2, Bool.not_not, pfx_app, ← Bool.and_assoc, ← f1, List.drop_drop, hes]
      cases hf : fldOk f (tx.data.toList.drop P) with
      | false => rfl
      | true => rw [(f2 hf).1]; rfl
    refine ⟨?_, fun z => ?_, fun z => ?_⟩
    · show (!rlOk (f.en ++ y) tx (rNum tx q).a (rNum tx q).bad) = _
      rw [hok]
    · show rlA (f.en ++ y) tx (rNum tx q).a (rNum tx q).bad = _
      rw [rlA_ok (by rw [hok]; exact z), hn.1, ByteArray.size_append, hes]
      rw [Bool.and_eq_true] at z
      rw [(f2 z.1).1]
      omega
    · rw [(f2 z).2]
      show (rnV (tx.data.toList.drop q.a) : Int) = _
      rw [hq]
def pW1 : ByteArray := ⟨#[99, 117, 114, 32]⟩
def pW2 : ByteArray := ⟨#[112, 114, 101, 118, 32]⟩
def pW3 : ByteArray := ⟨#[101, 112, 111, 99, 104, 32]⟩
def pW4 : ByteArray := ⟨#[115, 101, 113, 32]⟩
theorem empty_pfx (l : List UInt8) : pfx ⟨#[]⟩ l = true := by unfold pfx; rfl
end Go.Proofs.YtgdopepghmjopaaGreatDoor
namespace Go.Proofs.YtgdopepghmjopaaGreatDoor
open Go.RowKit Go.Shelf
/-- the stations of the document's note -/
def m0 (a : Nat) : RpS := ⟨a, false⟩
def m1 (tx : ByteArray) (a : Nat) : RpS := rNum tx (m0 a)
def m2 (tx : ByteArray) (a : Nat) : RpS := rLit bl tx (m1 tx a)
def m3 (tx : ByteArray) (a : Nat) : RpS := rNum tx (m2 tx a)
def m4 (tx : ByteArray) (a : Nat) : RpS := rLit bl tx (m3 tx a)
def m5 (tx : ByteArray) (a : Nat) : RpS := rNum tx (m4 tx a)
def m6 (tx : ByteArray) (a : Nat) : RpS := rLit bl tx (m5 tx a)
/-- what the document's note reads -/
def ntC (tx : ByteArray) (a : Nat) : Int := rVal tx (m0 a)
def ntP (tx : ByteArray) (a : Nat) : Int := rVal tx (m2 tx a)
def ntU (tx : ByteArray) (a : Nat) : Int := rVal tx (m4 tx a)
def ntX (tx : ByteArray) (a : Nat) : Int := (rsV (m6 tx a).bad (tx.data.toList.drop (m6 tx a).a) : Int)
def ntB (tx : ByteArray) (a : Nat) : Bool := rbOk (m6 tx a).bad 4 (tx.data.toList.drop (m6 tx a).a)
def ntT (tx : ByteArray) (a : Nat) : ByteArray := noteS (ntC tx a) (ntP tx a) (ntU tx a) (ntX tx a)
def rtOk (tx : ByteArray) (a : Nat) : Bool := ntB tx a && (noteOk (ntC tx a) (ntP tx a) (ntU tx a) (ntX tx a) && pfx (ntT tx a) (tx.data.toList.drop a))
def rtV (tx : ByteArray) (a : Nat) (v : Int) : Int := if rtOk tx a then v else 0
def rtSize (tx : ByteArray) (a : Nat) : Nat := if rtOk tx a then (ntT tx a).size else 0
theorem NoteAt.lt' {w : World} {rb : Nat} {c p e s : Int} (h : NoteAt w rb c p e s) : rb < w.heap.size := lt_of_cell? h.1
structure NS (Wa : World) (Q rc : Nat) (tx : ByteArray) (st : RpS) (c p e s : Int) (w : World) : Prop where
  old : Kb Q Wa w
  rd : RfAt Q tx st.a st.bad w
  rcd : NoteAt w rc c p e s
  fz : ∀ o, o < 4 → w.frozen? ⟨rc, o, none⟩ = false
theorem NS.kb {Wa : World} {Q rc : Nat} {tx : ByteArray} {st : RpS} {c p e s : Int} {w w' : World} (h : NS Wa Q rc tx st c p e s w) (hk : Kb Q w w') (hn : rc ≠ Q) {st' : RpS} (hr : RfAt Q tx st'.a st'.bad w') : NS Wa Q rc tx st' c p e s w' :=
  ⟨h.old.trans hk, hr, h.rcd.kb hk hn, fun o ho => by rw [hk.frozen h.rcd.lt' hn]; exact h.fz o ho⟩
theorem NS.set {Wa : World} {Q rc : Nat} {tx : ByteArray} {st : RpS} {c p e s : Int} {w : World} (h : NS Wa Q rc tx st c p e s w) (hc : Wa.heap.size ≤ rc) (hn : rc ≠ Q) (o : Nat) (v : Int) : NS Wa Q rc tx st (if o = 0 then v else c) (if o = 1 then v else p) (if o = 2 then v else e) (if o = 3 then v else s) (w.setCell ⟨rc, o, none⟩ (.int .i64 v)) := by
  have k := Kb.set rc o w (.int .i64 v)
  obtain ⟨q0, q1, q2, q3⟩ := h.rcd
  have step : ∀ i (n : Int), w.cell? ⟨rc, i, none⟩ = some (.int .i64 n) → (w.setCell ⟨rc, o, none⟩ (.int .i64 v)).cell? ⟨rc, i, none⟩ = some (.int .i64 (if o = i then v else n)) := fun i n hq => by
    by_cases hi : o = i
    · subst hi; rw [if_pos rfl]; exact World.cell?_setCell_same w _ _ hq
    · rw [if_neg hi]; exact (World.cell?_setCell_other w _ _ _ (by intro e; injection e with _ e _; exact hi e)).trans hq
  have hR : RfAt Q tx st.a st.bad (w.setCell ⟨rc, o, none⟩ (.int .i64 v)) := by
    have hl := h.rd.lt
    obtain ⟨r0, r1, r2, r3, r4⟩ := h.rd
    exact ⟨by rw [k.cell hl hn.symm]; exact r0, by rw [k.cell hl hn.symm]; exact r1, by rw [k.cell hl hn.symm]; exact r2, by rw [k.frozen hl hn.symm]; exact r3, by rw [k.frozen hl hn.symm]; exact r4⟩
  refine ⟨h.old.late rc o _ hc, hR, ⟨step 0 _ q0, step 1 _ q1, step 2 _ q2, step 3 _ q3⟩, fun o' ho => by rw [World.frozen?_setCell]; exact h.fz o' ho⟩
theorem noteS_len (c p e s : Int) (hc : I64 c) (hp : I64 p) (he : I64 e) : (noteS c p e s).size ≤ 100 := by
  unfold noteS
  split
  · have z1 := itoa_len c hc.1 hc.2
    have z2 := itoa_len p hp.1 hp.2
    have z3 := itoa_len e he.1 he.2
    rw [ByteArray.size_append, strOf_size, strOf_size, sealL_len]
    unfold noteL
    simp only [List.length_append, hexL_len, List.length_nil, List.length_cons]
    have : (be4 s.toNat).length = 4 := rfl
    show _ + (0 + 9) ≤ 100
    omega
  · decide
theorem rVal_i64 (tx : ByteArray) (q : RpS) : I64 (rVal tx q) := by
  have h : rnV (tx.data.toList.drop q.a) < 10 ^ 17 := by
    unfold rnV
    split
    · obtain ⟨h1, h2⟩ := numD_take (tx.data.toList.drop q.a)
      have h3 : (numD (tx.data.toList.drop q.a)).length ≤ 17 := by unfold numD; rw [List.length_take]; omega
      have h4 : (numD (tx.data.toList.drop q.a)).length ≤ (tx.data.toList.drop q.a).length := by rw [h1, List.length_take]; omega
      have := valD_lt (tx.data.toList.drop q.a) _ h4 (by rw [← h1]; exact h2)
      rw [← h1] at this
      exact Nat.lt_of_lt_of_le this (Nat.pow_le_pow_right (by omega) h3)
    · decide
  have e : (10 : Nat) ^ 17 = 100000000000000000 := rfl
  unfold I64 rVal
  omega
end Go.Proofs.YtgdopepghmjopaaGreatDoor
namespace Go.Proofs.YtgdopepghmjopaaGreatDoor
open Go.RowKit Go.Shelf
abbrev NV := Int × Int × Int × Int
/-- the cells of notes -/
def nc (l : List NV) : List Value := l.flatMap fun n => [.int .i64 n.1, .int .i64 n.2.1, .int .i64 n.2.2.1, .int .i64 n.2.2.2]
theorem nc_append (a b : List NV) : nc (a ++ b) = nc a ++ nc b := by simp [nc]
theorem nc_one (l : List NV) : ∀ u ∈ nc l, u.oneCell' = true := by
  intro u hu
  obtain ⟨p, _, hp⟩ := List.mem_flatMap.1 hu
  simp at hp
  rcases hp with rfl | rfl | rfl | rfl <;> rfl
theorem nc_one_len (n : NV) : (nc [n]).length = 1 * 4 := rfl
theorem nc_at (l : List NV) : ∀ i (h : i < l.length), (nc l)[i * 4]? = some (.int .i64 l[i].1) ∧ (nc l)[i * 4 + 1]? = some (.int .i64 l[i].2.1) ∧ (nc l)[i * 4 + 2]? = some (.int .i64 l[i].2.2.1) ∧ (nc l)[i * 4 + 3]? = some (.int .i64 l[i].2.2.2) := by
  induction l with
  | nil => intro i h; simp at h
  | cons p r ih =>
    intro i h
    cases i with
    | zero => exact ⟨rfl, rfl, rfl, rfl⟩
    | succ i =>
      have := ih i (by simpa using h)
      have e : nc (p :: r) = .int .i64 p.1 :: .int .i64 p.2.1 :: .int .i64 p.2.2.1 :: .int .i64 p.2.2.2 :: nc r := rfl
      rw [e, show (i + 1) * 4 = i * 4 + 1 + 1 + 1 + 1 by omega, show i * 4 + 1 + 1 + 1 + 1 + 1 = i * 4 + 1 + 1 + 1 + 1 + 1 from rfl, show i * 4 + 1 + 1 + 1 + 1 + 2 = i * 4 + 2 + 1 + 1 + 1 + 1 by omega, show i * 4 + 1 + 1 + 1 + 1 + 3 = i * 4 + 3 + 1 + 1 + 1 + 1 by omega]
      simpa using this
theorem own_below {w w' : World} {base e sz n : Nat} {v : Value} {xs : List Value} (h : w.ownsRow base e sz v n xs) (hb : Below w.heap.size w w') : w'.ownsRow base e sz v n xs := by
  refine h.kept (row := none) ⟨hb.os, hb.tape, hb.output, hb.size, fun k hk _ => hb.block k hk⟩ ?_
  rcases hv : v.ownBlock with _ | _
  · exact .inl rfl
  · exact .inr (by simp)
theorem le_alloc {B : Nat} {w : World} {o : Obj} (h : B ≤ w.heap.size) : B ≤ (w.alloc o).heap.size := by simp; omega
theorem nc_four (n : NV) : nc [n] = (#[.int .i64 n.1, .int .i64 n.2.1, .int .i64 n.2.2.1, .int .i64 n.2.2.2] : Array Value).toList := rfl
theorem note_room {k : Nat} (h : k ≤ 1000000000000) : k + 1 ≤ maxLen ∧ (k + 1) * 32 ≤ 140737488355328 := by unfold maxLen; omega
end Go.Proofs.YtgdopepghmjopaaGreatDoor
namespace Go.Proofs.YtgdopepghmjopaaGreatDoor
open Go.RowKit Go.Shelf
end Go.Proofs.YtgdopepghmjopaaGreatDoor
namespace Go.Proofs.YtgdopepghmjopaaGreatDoor
open Go.RowKit Go.Shelf
theorem beV_be4 (K : Nat) (h : K < 4294967296) : beV (be4 K) = K := by
  unfold beV be4
  simp only [List.foldl_cons, List.foldl_nil, UInt8.toNat_ofNat']
  omega
theorem be4_beV : ∀ t : List UInt8, t.length = 4 → be4 (beV t) = t
  | [b0, b1, b2, b3], _ => by
    have h0 := b0.toNat_lt
    have h1 := b1.toNat_lt
    have h2 := b2.toNat_lt
    have h3 := b3.toNat_lt
    unfold beV be4
    simp only [List.foldl_cons, List.foldl_nil, List.cons.injEq, and_true]
    refine ⟨?_, ?_, ?_, ?_⟩ <;> (apply UInt8.toNat_inj.1; rw [UInt8.toNat_ofNat']; omega)
theorem dec_back : ∀ (n : Nat) (d : List UInt8), d.length = n → d.all isDig = true → d ≠ [] → d.head? ≠ some 48 → Lib.decDigits (valD d) = d ∧ 1 ≤ valD d := by
  intro n
  induction n with
  | zero => intro d h _ hn _; exact absurd (List.length_eq_zero_iff.1 h) hn
  | succ n ih =>
    intro d hd ha hn hh
    obtain ⟨r, c, rfl⟩ : ∃ r c, d = r ++ [c] := ⟨d.dropLast, d.getLast hn, (List.dropLast_concat_getLast hn).symm⟩
    rw [List.all_append, Bool.and_eq_true] at ha
    have hc : isDig c = true := by simpa using ha.2
    have hc2 : 48 ≤ c.toNat ∧ c.toNat ≤ 57 := by unfold isDig at hc; simpa using hc
    have hcc : UInt8.ofNat (48 + (c.toNat - 48)) = c := by apply UInt8.toNat_inj.1; rw [UInt8.toNat_ofNat']; omega
    rw [valD_snoc]
    by_cases hr : r = []
    · subst hr
      have hv : valD [] = 0 := rfl
      rw [hv]
      have hc0 : c ≠ 48 := fun e => hh (by rw [e]; rfl)
      have hc1 : c.toNat ≠ 48 := fun e => hc0 (UInt8.toNat_inj.1 (by rw [e]; rfl))
      refine ⟨?_, by omega⟩
      rw [Lib.decDigits, dif_pos (by omega), show 10 * 0 + (c.toNat - 48) = c.toNat - 48 by omega, hcc]
      rfl
    · obtain ⟨h1, h2⟩ := ih r (by simp at hd; omega) ha.1 hr (by cases r with | nil => exact absurd rfl hr | cons x y => simpa using hh)
      refine ⟨?_, by omega⟩
      rw [Lib.decDigits, dif_neg (by omega), show (10 * valD r + (c.toNat - 48)) / 10 = valD r by omega, show (10 * valD r + (c.toNat - 48)) % 10 = c.toNat - 48 by omega, h1, hcc]
/-- a number that the document reads is printed as it stood -/
theorem num_back {l : List UInt8} (h : rnOk l = true) : Lib.itoa (rnV l : Int) = numD l := by
  have hv : rnV l = valD (numD l) := by unfold rnV; rw [if_pos h]
  unfold rnOk at h
  simp only [Bool.and_eq_true, decide_eq_true_eq, Bool.not_eq_true'] at h
  obtain ⟨⟨h1, h2⟩, h3⟩ := h
  obtain ⟨t1, t2⟩ := numD_take l
  have hne : numD l ≠ [] := fun e => by rw [e] at h1; simp at h1
  have hhd : (numD l).head? = l.head? := by
    rw [t1]
    cases l with
    | nil => simp
    | cons x y => obtain ⟨j, hj⟩ : ∃ j, (numD (x :: y)).length = j + 1 := ⟨(numD (x :: y)).length - 1, by omega⟩; rw [hj]; rfl
  unfold Lib.itoa
  rw [if_neg (by omega), Int.toNat_natCast, hv]
  by_cases hz : (numD l).head? = some 48
  · have hl1 : (numD l).length = 1 := by
      rw [hhd] at hz
      rw [hz] at h3
      simp at h3
      omega
    obtain ⟨x, hx⟩ : ∃ x, numD l = [x] := List.length_eq_one_iff.1 hl1
    rw [hx] at hz ⊢
    simp at hz
    subst hz
    rw [Lib.decDigits]
    decide
  · exact (dec_back _ _ rfl t2 hne hz).1
theorem pfx_take {s : ByteArray} {l : List UInt8} (h : pfx s l = true) : l.take s.size = s.data.toList := by
  unfold pfx at h
  rw [List.isPrefixOf_iff_prefix, List.prefix_iff_eq_take, size_data] at h
  exact h.symm
theorem pfx_of_take {s : ByteArray} {l : List UInt8} (h : l.take s.size = s.data.toList) : pfx s l = true := by
  unfold pfx
  rw [List.isPrefixOf_iff_prefix, List.prefix_iff_eq_take, size_data]
  exact h.symm
/-- a field that is a number, a blank behind it, is printed as it stood -/
theorem fld_back {f : FD} (hsh : f.sh = 0) (hw : f.wd = ⟨#[]⟩) (he : f.en = bl) {l : List UInt8} (h : fldOk f l = true) : l.take (fldN f l) = [] ++ Lib.itoa (fldV f l).1 ++ [32] := by
  obtain ⟨f1, f2⟩ := fld_num hsh (by rw [he]; rfl : f.en.data.toList = [32]) rfl rfl l
  obtain ⟨g1, g2⟩ := f2 h
  rw [f1, hw] at h
  rw [hw] at g1 g2
  have e0 : (⟨#[]⟩ : ByteArray).size = 0 := rfl
  rw [e0, List.drop_zero, Nat.zero_add] at h
  rw [e0, List.drop_zero] at g1 g2
  rw [Bool.and_eq_true, Bool.and_eq_true] at h
  rw [g1, g2, num_back h.2.1, Nat.zero_add, List.take_add, ← (numD_take l).1]
  have := pfx_take h.2.2
  rw [he] at this
  rw [show bl.size = 1 from rfl] at this
  rw [this]
  rfl
theorem hex_back {t l : List UInt8} (h : unhexL l = some t) (hl : l.length = 8) : hexL (be4 (beV t)) = l := by
  have := unhex_len h
  rw [be4_beV t (by omega)]
  exact hex_unhex h
/-- a sum that is read, a blank or a line feed behind it -/
theorem sum_same2 {en : ByteArray} {e : UInt8} (he : en.data.toList = [e]) (hse : isSep e = true) (l : List UInt8) : (sumOk (wordL l) && pfx en (l.drop (wordL l).length)) = (rbOk false 4 l && pfx en (l.drop 8)) ∧ ((sumOk (wordL l) && pfx en (l.drop (wordL l).length)) = true → (wordL l).length = 8 ∧ sumV (wordL l) = rsV false l) := by
  have key : (sumOk (wordL l) && pfx en (l.drop (wordL l).length)) = true → (wordL l).length = 8 ∧ wordL l = l.take 8 ∧ (unhexL (l.take 8)).isSome = true ∧ pfx en (l.drop 8) = true := fun h => by
    rw [Bool.and_eq_true] at h
    unfold sumOk hexOk at h
    rw [Bool.and_eq_true] at h
    have hl : (wordL l).length = 8 := by simpa using h.1.1
    have hw := wordL_take l
    rw [hl] at hw h
    rw [hw] at h
    exact ⟨hl, hw, h.1.2, h.2⟩
  have back : (rbOk false 4 l && pfx en (l.drop 8)) = true → wordL l = l.take 8 ∧ 8 ≤ l.length ∧ (unhexL (l.take 8)).isSome = true ∧ pfx en (l.drop 8) = true := fun h => by
    rw [Bool.and_eq_true] at h
    unfold rbOk at h
    simp only [Bool.not_false, Bool.true_and, Bool.and_eq_true] at h
    refine ⟨?_, by simpa using h.1.1, h.1.2, h.2⟩
    unfold wordL
    exact takeWhile_take l 8 (unhexL_sep _ h.1.2) (fun _ => ⟨e, (pfx_one he h.2).2, by rw [hse]; rfl⟩)
  refine ⟨?_, fun h => ?_⟩
  · rw [Bool.eq_iff_iff]
    constructor
    · intro h
      obtain ⟨h1, h2, h3, h4⟩ := key h
      have h5 := wordL_le l
      rw [h4, Bool.and_true]
      unfold rbOk
      rw [show 2 * 4 = 8 from rfl, h3, decide_eq_true (by omega)]
      rfl
    · intro h
      obtain ⟨h1, h2, h3, h4⟩ := back h
      have hl : (wordL l).length = 8 := by rw [h1, List.length_take]; omega
      rw [hl, h4, Bool.and_true]
      unfold sumOk hexOk
      rw [decide_eq_true (by omega), h1, h3]
      rfl
  · obtain ⟨h1, h2, h3, h4⟩ := key h
    refine ⟨h1, ?_⟩
    have h5 := wordL_le l
    unfold sumV hexV rsV rbOk
    rw [if_pos (by omega), show 2 * 4 = 8 from rfl, h3, decide_eq_true (by omega), h2]
    rfl
/-- a field that is a sum, without a word ahead -/
theorem fld_sum {f : FD} {e : UInt8} (hsh : f.sh = 1) (hw : f.wd = ⟨#[]⟩) (he : f.en.data.toList = [e]) (hse : isSep e = true) (l : List UInt8) :
    fldOk f l = (rbOk false 4 l && pfx f.en (l.drop 8)) ∧ (fldOk f l = true → fldN f l = 9 ∧ (fldV f l).1 = (rsV false l : Int)) := by
  obtain ⟨s1, s2⟩ := sum_same2 he hse l
  have e0 : (⟨#[]⟩ : ByteArray).size = 0 := rfl
  have e2 : fldW f l = wordL l := by unfold fldW; rw [hw, e0, List.drop_zero]
  have e3 : fldOk f l = (sumOk (wordL l) && pfx f.en (l.drop (wordL l).length)) := by
    unfold fldOk
    rw [e2, hsh, hw, e0, List.drop_zero, empty_pfx]
    rfl
  refine ⟨by rw [e3, s1], fun h => ?_⟩
  rw [e3] at h
  obtain ⟨g1, g2⟩ := s2 h
  have hes : f.en.size = 1 := by rw [← size_data, he]; rfl
  refine ⟨?_, ?_⟩
  · unfold fldN; rw [e2, g1, hes, hw, e0]
  · unfold fldV; rw [e2, hsh]
    show (sumV _ : Int) = _
    rw [g2]
/-- a sum's line stands where a text goes on with it -/
theorem seal_pfx (K : Nat) (hK : K < 4294967296) (l : List UInt8) : pfx (strOf (sealL ⟨#[]⟩ K)) l = ((rbOk false 4 l && pfx nl (l.drop 8)) && decide ((rsV false l : Int) = (K : Int))) := by
  have hd : (strOf (sealL ⟨#[]⟩ K)).data.toList = hexL (be4 K) ++ [10] := rfl
  have hs : (strOf (sealL ⟨#[]⟩ K)).size = 9 := by rw [← size_data, hd, List.length_append, hexL_len]; rfl
  have hx : (hexL (be4 K)).length = 8 := by rw [hexL_len]; rfl
  rw [Bool.eq_iff_iff]
  constructor
  · intro h
    have ht := pfx_take h
    have hle := pfx_le h
    rw [hs] at ht hle
    rw [hd, show 9 = 8 + 1 from rfl, List.take_add] at ht
    obtain ⟨t1, t2⟩ := List.append_inj ht (by rw [List.length_take, hx]; omega)
    have hu : unhexL (l.take 8) = some (be4 K) := by rw [t1, unhex_hex]
    have hb : rbOk false 4 l = true := by
      unfold rbOk
      rw [show 2 * 4 = 8 from rfl, hu, decide_eq_true (by omega)]; rfl
    have hr : rsV false l = K := by unfold rsV; rw [if_pos hb, hu]; exact beV_be4 K hK
    rw [hb, hr, pfx_of_take (s := nl) (by exact t2)]
    simp
  · intro h
    rw [Bool.and_eq_true, Bool.and_eq_true] at h
    obtain ⟨⟨h1, h2⟩, h3⟩ := h
    have h3 := of_decide_eq_true h3
    have hr : rsV false l = beV ((unhexL (l.take 8)).getD []) := by unfold rsV; rw [if_pos h1]
    unfold rbOk at h1
    simp only [Bool.not_false, Bool.true_and, Bool.and_eq_true, decide_eq_true_eq] at h1
    obtain ⟨h1a, h1b⟩ := h1
    obtain ⟨t, ht⟩ := Option.isSome_iff_exists.1 h1b
    rw [show 2 * 4 = 8 from rfl] at ht h1a
    rw [ht] at hr
    have hk : beV t = K := by have : rsV false l = beV t := hr; omega
    have hb := hex_back ht (by rw [List.length_take]; omega)
    rw [hk] at hb
    apply pfx_of_take
    rw [hs, hd, show 9 = 8 + 1 from rfl, List.take_add, hb]
    congr 1
    exact pfx_take h2
end Go.Proofs.YtgdopepghmjopaaGreatDoor
namespace Go.Proofs.YtgdopepghmjopaaGreatDoor
open Go.RowKit Go.Shelf
theorem pnum_any (d : Int) (w : World) :
    Calls Tryz.prog 8 #[.int .i64 d] w fun e w' => e = .returned (.int .i64 d) ∧ w = w' := by
  go_enter Tryz.func8, Tryz.ntmps8
  go_wp2
  go_ret
  exact ⟨rfl, rfl⟩
theorem ptrS_len (c p e s : Int) (hc : I64 c) (hp : I64 p) (he : I64 e) (hs : I64 s) : (ptrS c p e s).size < 9223372036854775808 := by
  unfold ptrS
  split
  · unfold paperS
    have z1 := itoa_len c hc.1 hc.2
    have z2 := itoa_len p hp.1 hp.2
    have z3 := itoa_len e he.1 he.2
    have z4 := itoa_len s hs.1 hs.2
    have t : ptrTitle.size = 17 := rfl
    have u : sumWd.size = 4 := rfl
    rw [ByteArray.size_append, ByteArray.size_append, strOf_size, strOf_size, sealL_len, t, u]
    unfold ptrL
    simp only [List.length_append, List.length_cons, List.length_nil]
    omega
  · decide
end Go.Proofs.YtgdopepghmjopaaGreatDoor
namespace Go.Proofs.YtgdopepghmjopaaGreatDoor
open Go.RowKit Go.Shelf
/-- notes in memory -/
def LiesN (b : Nat) (w : World) (l : List NV) : Prop := ∀ i (h : i < l.length), w.cell? ⟨b, i * 4, none⟩ = some (.int .i64 l[i].1) ∧ w.cell? ⟨b, i * 4 + 1, none⟩ = some (.int .i64 l[i].2.1) ∧ w.cell? ⟨b, i * 4 + 2, none⟩ = some (.int .i64 l[i].2.2.1) ∧ w.cell? ⟨b, i * 4 + 3, none⟩ = some (.int .i64 l[i].2.2.2)
theorem LiesN.below {b : Nat} {w w' : World} {l : List NV} (h : LiesN b w l) (hb : b < w.heap.size) (hw : Below w.heap.size w w') : LiesN b w' l := fun i hi => by
  rw [hw.cell (by exact hb), hw.cell (by exact hb), hw.cell (by exact hb), hw.cell (by exact hb)]; exact h i hi
theorem rowN_lies {w : World} {base g cap n : Nat} {l : List NV} {e : TypeId} (h : w.ownsRow base e 4 (.slice (some ⟨g, 0, none⟩) n cap) n (nc l)) (hn : l.length ≤ n) : LiesN g w l := by
  intro i hi
  have h0 := h.cellAt (i * 4) (by omega)
  have h1 := h.cellAt (i * 4 + 1) (by omega)
  have h2 := h.cellAt (i * 4 + 2) (by omega)
  have h3 := h.cellAt (i * 4 + 3) (by omega)
  obtain ⟨p0, p1, p2, p3⟩ := nc_at l i hi
  rw [h0, h1, h2, h3, p0, p1, p2, p3]
  exact ⟨rfl, rfl, rfl, rfl⟩
theorem own_notes {w : World} {base : Nat} {v : Value} {l : List NV} {e : TypeId} (h : w.ownsRow base e 4 v l.length (nc l)) : ∃ (a : Option Addr) (g c : Nat), v = .slice a l.length c ∧ (0 < l.length → a = some ⟨g, 0, none⟩) ∧ (0 < l.length → g < w.heap.size) ∧ LiesN g w l := by
  have h' := h
  obtain ⟨_, ⟨rfl, hn⟩ | ⟨g, cap, cur, rfl, _, hg, _⟩⟩ := h
  · exact ⟨none, 0, 0, by rw [hn], fun z => by omega, fun z => by omega, fun i hi => by omega⟩
  · exact ⟨_, g, cap, rfl, fun _ => rfl, fun _ => (Array.getElem?_eq_some_iff.1 hg).1, rowN_lies h' (Nat.le_refl _)⟩
end Go.Proofs.YtgdopepghmjopaaGreatDoor
namespace Go.Proofs.YtgdopepghmjopaaGreatDoor
open Go.RowKit Go.Shelf
theorem pfx_len2 {s : ByteArray} {l : List UInt8} {k : Nat} (h : pfx s l = true) (hk : k < s.size) : l[k]? = s.data.toList[k]? := by
  have := pfx_take h
  rw [← this, List.getElem?_take, if_pos hk]
end Go.Proofs.YtgdopepghmjopaaGreatDoor
