import Derived.Test.YtaclbffacnoddaaGreatDoorPaRfS
import Derived.Test.YtaclbffacnoddaaGreatDoorPart14
import Derived.Test.YtaclbffacnoddaaGreatDoorPaPP2
namespace Go.Proofs.YtaclbffacnoddaaGreatDoor
open Go.RowKit Go.Shelf
theorem pfx_one {en : ByteArray} {e : UInt8} (he : en.data.toList = [e]) {l : List UInt8} {k : Nat} (h : pfx en (l.drop k) = true) : k < l.length ∧ l[k]? = some e := by
  have h1 := pfx_le h
  rw [List.length_drop] at h1
  have h2 : en.size = 1 := by rw [← size_data, he]; rfl
  refine ⟨by omega, ?_⟩
  have h3 := List.isPrefixOf_iff_prefix.1 h
  obtain ⟨r, hr⟩ := h3
  have h4 : (l.drop k)[0]? = some e := by rw [← hr, he]; rfl
  rwa [List.getElem?_drop, Nat.add_zero] at h4
theorem dig_sep {c : UInt8} (h : isDig c = true) : isSep c = false := by
  unfold isDig at h
  unfold isSep
  simp at h
  have h1 : c ≠ 32 := fun e => by subst e; simp at h
  have h2 : c ≠ 10 := fun e => by subst e; simp at h
  simp [h1, h2]
theorem all_dig_sep {l : List UInt8} (h : l.all isDig = true) : l.all (fun c => !isSep c) = true := by
  rw [List.all_eq_true] at h ⊢
  intro c hc
  rw [dig_sep (h c hc)]; rfl
theorem numD_take (l : List UInt8) : numD l = l.take (numD l).length ∧ (numD l).all isDig = true := by
  have h1 : numD l <+: l := by unfold numD; exact (List.take_prefix _ _).trans (List.takeWhile_prefix _)
  refine ⟨List.prefix_iff_eq_take.1 h1, ?_⟩
  rw [List.all_eq_true]
  intro c hc
  unfold numD at hc
  have ht := List.all_takeWhile (p := isDig) (l := l)
  rw [List.all_eq_true] at ht
  exact ht c (List.mem_of_mem_take hc)
/-- a number that is read: in the program's way, in the document's -/
theorem num_same {en : ByteArray} {e : UInt8} (he : en.data.toList = [e]) (hse : isSep e = true) (hde : isDig e = false) (l : List UInt8) :
    (numOk (wordL l) && pfx en (l.drop (wordL l).length)) = (rnOk l && pfx en (l.drop (numD l).length)) ∧ ((numOk (wordL l) && pfx en (l.drop (wordL l).length)) = true → (wordL l).length = (numD l).length ∧ numV (wordL l) = rnV l) := by
  have zh : ∀ k, k ≤ l.length → 1 ≤ k → zeroHd (l.take k) = (decide (1 < k) && l.head? == some 48) := fun k hk h1 => by
    unfold zeroHd
    cases l with
    | nil => simp at hk; omega
    | cons c r =>
      obtain ⟨j, rfl⟩ : ∃ j, k = j + 1 := ⟨k - 1, by omega⟩
      rw [List.take_succ_cons]
      cases j with
      | zero => simp
      | succ j =>
        have : (r.take (j + 1)) ≠ [] := by
          intro h
          have h5 : (r.take (j + 1)).length = min (j + 1) r.length := List.length_take
          rw [h] at h5
          simp only [List.length_nil, List.length_cons] at h5 hk
          omega
        simp [this]
  have key : (numOk (wordL l) && pfx en (l.drop (wordL l).length)) = true → numD l = wordL l ∧ rnOk l = true := fun h => by
    rw [Bool.and_eq_true] at h
    have hw := wordL_take l
    have hl := wordL_le l
    obtain ⟨k, hk⟩ : ∃ k, k = (wordL l).length := ⟨_, rfl⟩
    rw [← hk] at hw hl h
    have hn := h.1
    unfold numOk at hn
    rw [Bool.and_eq_true, Bool.and_eq_true, Bool.and_eq_true] at hn
    obtain ⟨⟨⟨n1, n2⟩, n3⟩, n4⟩ := hn
    have l16 : k ≤ 16 := by rw [hk]; exact of_decide_eq_true n2
    have l1 : 1 ≤ k := by
      rw [hk]
      cases hq : wordL l with
      | nil => rw [hq] at n1; simp at n1
      | cons => simp
    rw [hw] at n4 n3
    have hD := numD_at n4 (by omega) hl (.inr (.inr ⟨e, (pfx_one he h.2).2, hde⟩))
    refine ⟨by rw [hD, ← hw], ?_⟩
    unfold rnOk
    rw [hD, List.length_take, show min k l.length = k by omega, decide_eq_true l1, decide_eq_true l16, ← zh k hl l1]
    exact n3
  have back : (rnOk l && pfx en (l.drop (numD l).length)) = true → wordL l = numD l ∧ numOk (wordL l) = true := fun h => by
    rw [Bool.and_eq_true] at h
    obtain ⟨d1, d2⟩ := numD_take l
    have hl : (numD l).length ≤ l.length := by rw [d1, List.length_take]; omega
    obtain ⟨k, hk⟩ : ∃ k, k = (numD l).length := ⟨_, rfl⟩
    rw [← hk] at d1 hl h
    rw [d1] at d2
    have hw : wordL l = l.take k := by
      unfold wordL
      exact takeWhile_take l k (all_dig_sep d2) (fun _ => ⟨e, (pfx_one he h.2).2, by rw [hse]; rfl⟩)
    refine ⟨by rw [hw, d1], ?_⟩
    have hr := h.1
    unfold rnOk at hr
    rw [← hk, Bool.and_eq_true, Bool.and_eq_true] at hr
    obtain ⟨⟨r1, r2⟩, r3⟩ := hr
    have l1 := of_decide_eq_true r1
    have l16 := of_decide_eq_true r2
    unfold numOk
    rw [hw, d2, zh k hl l1, r3, List.length_take, show min k l.length = k by omega, decide_eq_true l16]
    have : (l.take k).isEmpty = false := by
      rw [List.isEmpty_eq_false_iff]
      intro q
      have h5 : (l.take k).length = min k l.length := List.length_take
      rw [q] at h5
      simp only [List.length_nil] at h5
      omega
    rw [this]; rfl
  refine ⟨?_, fun h => ?_⟩
  · rw [Bool.eq_iff_iff]
    constructor
    · intro h
      obtain ⟨h1, h2⟩ := key h
      rw [Bool.and_eq_true] at h ⊢
      rw [h1]; exact ⟨h2, h.2⟩
    · intro h
      obtain ⟨h1, h2⟩ := back h
      rw [Bool.and_eq_true] at h ⊢
      exact ⟨h2, by rw [h1]; exact h.2⟩
  · obtain ⟨h1, h2⟩ := key h
    rw [Bool.and_eq_true] at h
    refine ⟨by rw [h1], ?_⟩
    unfold numV rnV
    rw [h.1, h2, h1]
/-- where the document's reader is, and is it bad; four numbers -/
structure RpS where
  a : Nat
  bad : Bool
def rLit (s tx : ByteArray) (q : RpS) : RpS := ⟨rlA s tx q.a q.bad, !rlOk s tx q.a q.bad⟩
def rNum (tx : ByteArray) (q : RpS) : RpS := ⟨q.a + (numD (tx.data.toList.drop q.a)).length, q.bad || !rnOk (tx.data.toList.drop q.a)⟩
def rVal (tx : ByteArray) (q : RpS) : Int := (rnV (tx.data.toList.drop q.a) : Int)
theorem rLit_le {s tx : ByteArray} {q : RpS} (h : q.a ≤ tx.size) : (rLit s tx q).a ≤ tx.size := rlA_le h
theorem rNum_le {tx : ByteArray} {q : RpS} (h : q.a ≤ tx.size) : (rNum tx q).a ≤ tx.size := by
  have h1 := (numD_take (tx.data.toList.drop q.a)).1
  have h2 : (numD (tx.data.toList.drop q.a)).length ≤ (tx.data.toList.drop q.a).length := by rw [h1, List.length_take]; omega
  rw [List.length_drop, size_data] at h2
  show q.a + _ ≤ _
  omega
/-- the stations of the document's ParsePointer -/
def q0 : RpS := ⟨0, false⟩
def q1 (tx : ByteArray) : RpS := rLit pS1 tx q0
def q2 (tx : ByteArray) : RpS := rNum tx (q1 tx)
def q3 (tx : ByteArray) : RpS := rLit pS2 tx (q2 tx)
def q4 (tx : ByteArray) : RpS := rNum tx (q3 tx)
def q5 (tx : ByteArray) : RpS := rLit pS3 tx (q4 tx)
def q6 (tx : ByteArray) : RpS := rNum tx (q5 tx)
def q7 (tx : ByteArray) : RpS := rLit pS4 tx (q6 tx)
def q8 (tx : ByteArray) : RpS := rNum tx (q7 tx)
def q9 (tx : ByteArray) : RpS := rLit nl tx (q8 tx)
/-- what the document's ParsePointer answers -/
def rpC (tx : ByteArray) : Int := rVal tx (q1 tx)
def rpP (tx : ByteArray) : Int := rVal tx (q3 tx)
def rpEp (tx : ByteArray) : Int := rVal tx (q5 tx)
def rpSq (tx : ByteArray) : Int := rVal tx (q7 tx)
def rpL (tx : ByteArray) : Int := lstE tx (q9 tx).a (q9 tx).bad
def rpErr (tx : ByteArray) : Int := if rpL tx = 0 then ptrE (rpC tx) (rpP tx) (rpEp tx) (rpSq tx) else rpL tx
def rpV (tx : ByteArray) (v : Int) : Int := if rpErr tx = 0 then v else 0
structure PS (Wa : World) (Q rc : Nat) (tx : ByteArray) (st : RpS) (c p e s : Int) (w : World) : Prop where
  old : Below Wa.heap.size Wa w
  rd : RfAt Q tx st.a st.bad w
  rcd : PtrAt w rc c p e s
  fz : ∀ o, o < 4 → w.frozen? ⟨rc, o, none⟩ = false
theorem PS.kb {Wa : World} {Q rc : Nat} {tx : ByteArray} {st : RpS} {c p e s : Int} {w w' : World} (h : PS Wa Q rc tx st c p e s w) (hk : Kb Q w w') (hQ : Wa.heap.size ≤ Q) (hn : rc ≠ Q) {st' : RpS} (hr : RfAt Q tx st'.a st'.bad w') : PS Wa Q rc tx st' c p e s w' :=
  ⟨hk.below h.old hQ h.old.size, hr, h.rcd.kb hk hn, fun o ho => by rw [hk.frozen h.rcd.lt hn]; exact h.fz o ho⟩
theorem PS.set {Wa : World} {Q rc : Nat} {tx : ByteArray} {st : RpS} {c p e s : Int} {w : World} (h : PS Wa Q rc tx st c p e s w) (hc : Wa.heap.size ≤ rc) (hn : rc ≠ Q) (o : Nat) (v : Int) : PS Wa Q rc tx st (if o = 0 then v else c) (if o = 1 then v else p) (if o = 2 then v else e) (if o = 3 then v else s) (w.setCell ⟨rc, o, none⟩ (.int .i64 v)) := by
  have k := Kb.set rc o w (.int .i64 v)
  obtain ⟨q0, q1, q2, q3⟩ := h.rcd
  have step : ∀ i (n : Int), w.cell? ⟨rc, i, none⟩ = some (.int .i64 n) → (w.setCell ⟨rc, o, none⟩ (.int .i64 v)).cell? ⟨rc, i, none⟩ = some (.int .i64 (if o = i then v else n)) := fun i n hq => by
    by_cases hi : o = i
    · subst hi; rw [if_pos rfl]; exact World.cell?_setCell_same w _ _ hq
    · rw [if_neg hi]; exact (World.cell?_setCell_other w _ _ _ (by intro e; injection e with _ e _; exact hi e)).trans hq
  have hR : RfAt Q tx st.a st.bad (w.setCell ⟨rc, o, none⟩ (.int .i64 v)) := by
    have hl := h.rd.lt
    obtain ⟨r0, r1, r2, r3, r4⟩ := h.rd
    exact ⟨by rw [k.cell hl hn.symm]; exact r0, by rw [k.cell hl hn.symm]; exact r1, by rw [k.cell hl hn.symm]; exact r2, by rw [k.frozen hl hn.symm]; exact r3, by rw [k.frozen hl hn.symm]; exact r4⟩
  refine ⟨k.below h.old hc h.old.size, hR, ⟨step 0 _ q0, step 1 _ q1, step 2 _ q2, step 3 _ q3⟩, fun o' ho => by rw [World.frozen?_setCell]; exact h.fz o' ho⟩
end Go.Proofs.YtaclbffacnoddaaGreatDoor
