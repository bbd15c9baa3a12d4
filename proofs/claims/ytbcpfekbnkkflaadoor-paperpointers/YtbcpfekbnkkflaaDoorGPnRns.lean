import Derived.Test.YtbcpfekbnkkflaaDoorGPnRn
import Derived.Test.YtbcpfekbnkkflaaDoorGPaRfQ
namespace Go.Proofs.YtbcpfekbnkkflaaDoor
open Go.RowKit Go.Shelf
def SameAt (tx : ByteArray) : Prop := ∀ a, a ≤ tx.size → rtSize tx a = nsz tx a ∧ rtV tx a (ntC tx a) = (nvAt tx a).1 ∧ rtV tx a (ntP tx a) = (nvAt tx a).2.1 ∧ rtV tx a (ntU tx a) = (nvAt tx a).2.2.1 ∧ rtV tx a (ntX tx a) = (nvAt tx a).2.2.2
theorem nsz_end (tx : ByteArray) : nsz tx tx.size = 0 := by have := nsz_le (Nat.le_refl tx.size); omega
set_option maxHeartbeats 2000000 in
set_option maxRecDepth 100000 in
theorem rparseNotes_any (tx : ByteArray) (w : World) (htx : tx.size ≤ 4000000) (hP : Pow w) (hsame : SameAt tx) :
    Calls Tryd.prog 26 #[.string tx] w fun e w' => ∃ (v : Value) (k : Nat) (l : List NV) (q : Nat), e = .returned (.tuple #[v, .int .i64 (q : Int)]) ∧ notesAt tx k = some (l, q) ∧ nsz tx q = 0 ∧ w'.ownsRow w.heap.size 23 4 v l.length (nc l) ∧ Below w.heap.size w w' := by
  obtain ⟨i0, hi, hz0, hz1, hz2⟩ := info_parts infoN
  have RN : Hid (∀ q wr, q ≤ tx.size → Below w.heap.size w wr → Calls Tryd.prog 54 #[.pointer (some ⟨wr.heap.size, 0, none⟩)] (wr.alloc (.cells #[.string tx, .int .i64 (q : Int), .bool false] 92)) fun x w' => x = .returned (.tuple #[.agg #[.int .i64 (nvAt tx q).1, .int .i64 (nvAt tx q).2.1, .int .i64 (nvAt tx q).2.2.1, .int .i64 (nvAt tx q).2.2.2], .int .i64 (nsz tx q : Int)]) ∧ Below wr.heap.size wr w') := fun q wr hq hb => by
    have b0 : Below wr.heap.size wr (wr.alloc (.cells #[.string tx, .int .i64 (q : Int), .bool false] 92)) := (Below.refl _ _).alloc (Nat.le_refl _) _
    have kb : ∀ w', Kb wr.heap.size (wr.alloc (.cells #[.string tx, .int .i64 (q : Int), .bool false] 92)) w' → Below wr.heap.size wr w' := fun w' k => k.below b0 (Nat.le_refl _) b0.size
    have := rnote_any wr.heap.size tx q (wr.alloc (.cells #[.string tx, .int .i64 (q : Int), .bool false] 92)) ⟨by simp, by simp, by simp, by simp, by simp⟩ hq (by omega) (fun w' k => (hP.below hb).below (kb w' k))
    obtain ⟨e0, e1, e2, e3, e4⟩ := hsame q hq
    rw [e0, e1, e2, e3, e4] at this
    exact this.mono fun x w' ⟨h1, h2⟩ => ⟨h1, kb w' h2⟩
  clear hP hsame
  go_enter Tryd.func26, Tryd.ntmps26
  go_wp2_with fail
  go_loopw [4, 5] (fun v g wr => ∃ (k : Nat) (l : List NV) (q : Nat), g = .int .i64 (q : Int) ∧ notesAt tx k = some (l, q) ∧ wr.ownsRow w.heap.size 23 4 v l.length (nc l) ∧ Below w.heap.size w wr)
    (fun _ g _ => tx.size - (intOf g).toNat)
  case atStart => exact ⟨0, [], 0, rfl, rfl, World.ownsRow_nil _ _ _ _, Below.refl _ _⟩
  case round =>
    obtain ⟨k, l, q, rfl, hpa, hown, hnx⟩ := hrel
    have hsz := hnx.size
    obtain ⟨hl1, hq1, hk1⟩ := notesAt_le _ _ _ hpa
    have hq2 := nsz_le hq1
    have HPA := hide hpa
    have HNX := hide hnx
    have HOWN := hide hown
    have RQ := hide (RN.out q wr hq1 hnx)
    clear hpa hnx hown
    by_cases hend : q = tx.size
    · have HZ : Hid (nsz tx q = 0) := by show _ = _; rw [hend]; exact nsz_end tx
      have hqi : ¬ ((q : Int) < (tx.size : Int)) := by omega
      clear hq2 RQ hend
      go_wp2_with fail
      go_ret2
      exact ⟨_, k, l, q, rfl, HPA.out, HZ.out, HOWN.out, HNX.out⟩
    · have hqi : (q : Int) < (tx.size : Int) := by omega
      by_cases hz : nsz tx q = 0
      · have HZ := hide hz
        rw [hz] at RQ
        clear hz hq2
        generalize nvAt tx q = n at *
        go_wp2_with fail
        refine Calls.mono RQ.out ?_
        rintro e w1 ⟨rfl, b1⟩
        have B1 := hide (HNX.out.trans (b1.mono hsz))
        have O1 := hide (own_below HOWN.out b1)
        clear b1 RQ
        go_wp2_with fail
        go_ret2
        exact ⟨_, k, l, q, rfl, HPA.out, HZ.out, O1.out.alloc _, B1.out.alloc B1.out.size _⟩
      · have HST := hide (notes_step HPA.out hz)
        have hzp : 0 < nsz tx q := by omega
        generalize nvAt tx q = n at *
        generalize nsz tx q = Z at *
        have hzi : ((Z : Int) == 0) = false := by simp; omega
        obtain ⟨hm1, hm2⟩ := note_room (k := l.length) (by omega)
        go_wp2_with fail
        refine Calls.mono RQ.out ?_
        rintro e w1 ⟨rfl, b1⟩
        have B1' := HNX.out.trans (b1.mono hsz)
        have s1 := B1'.size
        have O1 := hide (own_below HOWN.out b1)
        have B1 := hide B1'
        clear b1 RQ B1'
        go_wp2_with (at_builtin; refine wpList_append_own _ rfl _ _ 32 rfl w.heap.size 23 i0 (.agg #[.int .i64 0, .int .i64 0, .int .i64 0, .int .i64 0]) 4 32 Tryd.underlying32 hi hz0 hz1 hz2 rfl (by decide) _ _ _ rfl ((O1.out.alloc _).alloc _) ⟨w1.heap.size + 1, 0, none⟩ 1 1 (nc [n]) rfl (nc_one_len n) (cell_note2 w1 _ n) (nc_one _) hm1 hm2 (le_alloc (le_alloc s1)) ?_; intro v2 w2 o2 g2 n2; clear n2)
        go_roundw
        case rel =>
          refine ⟨k + 1, l ++ [n], q + Z, by go_num, HST.out, ?_, ?_⟩
          · rw [nc_append, List.length_append]
            exact o2
          · exact ((B1.out.alloc s1 _).alloc (le_alloc s1) _).grown g2 (le_alloc (le_alloc s1)) (fun j hj => (O1.out.lt j hj).1)
        case measure => simp [intOf]; omega
end Go.Proofs.YtbcpfekbnkkflaaDoor
namespace Go.Proofs.YtbcpfekbnkkflaaDoor
open Go.RowKit Go.Shelf
theorem beV_be4 (K : Nat) (h : K < 4294967296) : beV (be4 K) = K := by
  unfold beV be4
  simp only [List.foldl_cons, List.foldl_nil, UInt8.toNat_ofNat']
  omega
theorem be4_beV : ∀ t : List UInt8, t.length = 4 → be4 (beV t) = t
  | [b0, b1, b2, b3], _ => by
    have h0 := b0.toNat_lt
    have h1 := b1.toNat_lt
    have h2 := b2.toNat_lt
    have h3 := b3.toNat_lt
    unfold beV be4
    simp only [List.foldl_cons, List.foldl_nil, List.cons.injEq, and_true]
    refine ⟨?_, ?_, ?_, ?_⟩ <;> (apply UInt8.toNat_inj.1; rw [UInt8.toNat_ofNat']; omega)
theorem dec_back : ∀ (n : Nat) (d : List UInt8), d.length = n → d.all isDig = true → d ≠ [] → d.head? ≠ some 48 → Lib.decDigits (valD d) = d ∧ 1 ≤ valD d := by
  intro n
  induction n with
  | zero => intro d h _ hn _; exact absurd (List.length_eq_zero_iff.1 h) hn
  | succ n ih =>
    intro d hd ha hn hh
    obtain ⟨r, c, rfl⟩ : ∃ r c, d = r ++ [c] := ⟨d.dropLast, d.getLast hn, (List.dropLast_concat_getLast hn).symm⟩
    rw [List.all_append, Bool.and_eq_true] at ha
    have hc : isDig c = true := by simpa using ha.2
    have hc2 : 48 ≤ c.toNat ∧ c.toNat ≤ 57 := by unfold isDig at hc; simpa using hc
    have hcc : UInt8.ofNat (48 + (c.toNat - 48)) = c := by apply UInt8.toNat_inj.1; rw [UInt8.toNat_ofNat']; omega
    rw [valD_snoc]
    by_cases hr : r = []
    · subst hr
      have hv : valD [] = 0 := rfl
      rw [hv]
      have hc0 : c ≠ 48 := fun e => hh (by rw [e]; rfl)
      have hc1 : c.toNat ≠ 48 := fun e => hc0 (UInt8.toNat_inj.1 (by rw [e]; rfl))
      refine ⟨?_, by omega⟩
      rw [Lib.decDigits, dif_pos (by omega), show 10 * 0 + (c.toNat - 48) = c.toNat - 48 by omega, hcc]
      rfl
    · obtain ⟨h1, h2⟩ := ih r (by simp at hd; omega) ha.1 hr (by cases r with | nil => exact absurd rfl hr | cons x y => simpa using hh)
      refine ⟨?_, by omega⟩
      rw [Lib.decDigits, dif_neg (by omega), show (10 * valD r + (c.toNat - 48)) / 10 = valD r by omega, show (10 * valD r + (c.toNat - 48)) % 10 = c.toNat - 48 by omega, h1, hcc]
/-- a number that the document reads is printed as it stood -/
theorem num_back {l : List UInt8} (h : rnOk l = true) : Lib.itoa (rnV l : Int) = numD l := by
  have hv : rnV l = valD (numD l) := by unfold rnV; rw [if_pos h]
  unfold rnOk at h
  simp only [Bool.and_eq_true, decide_eq_true_eq, Bool.not_eq_true'] at h
  obtain ⟨⟨h1, h2⟩, h3⟩ := h
  obtain ⟨t1, t2⟩ := numD_take l
  have hne : numD l ≠ [] := fun e => by rw [e] at h1; simp at h1
  have hhd : (numD l).head? = l.head? := by
    rw [t1]
    cases l with
    | nil => simp
    | cons x y => obtain ⟨j, hj⟩ : ∃ j, (numD (x :: y)).length = j + 1 := ⟨(numD (x :: y)).length - 1, by omega⟩; rw [hj]; rfl
  unfold Lib.itoa
  rw [if_neg (by omega), Int.toNat_natCast, hv]
  by_cases hz : (numD l).head? = some 48
  · have hl1 : (numD l).length = 1 := by
      rw [hhd] at hz
      rw [hz] at h3
      simp at h3
      omega
    obtain ⟨x, hx⟩ : ∃ x, numD l = [x] := List.length_eq_one_iff.1 hl1
    rw [hx] at hz ⊢
    simp at hz
    subst hz
    rw [Lib.decDigits]
    decide
  · exact (dec_back _ _ rfl t2 hne hz).1
theorem pfx_take {s : ByteArray} {l : List UInt8} (h : pfx s l = true) : l.take s.size = s.data.toList := by
  unfold pfx at h
  rw [List.isPrefixOf_iff_prefix, List.prefix_iff_eq_take, size_data] at h
  exact h.symm
theorem pfx_of_take {s : ByteArray} {l : List UInt8} (h : l.take s.size = s.data.toList) : pfx s l = true := by
  unfold pfx
  rw [List.isPrefixOf_iff_prefix, List.prefix_iff_eq_take, size_data]
  exact h.symm
/-- a field that is a number, a blank behind it, is printed as it stood -/
theorem fld_back {f : FD} (hsh : f.sh = 0) (hw : f.wd = ⟨#[]⟩) (he : f.en = bl) {l : List UInt8} (h : fldOk f l = true) : l.take (fldN f l) = [] ++ Lib.itoa (fldV f l).1 ++ [32] := by
  obtain ⟨f1, f2⟩ := fld_num hsh (by rw [he]; rfl : f.en.data.toList = [32]) rfl rfl l
  obtain ⟨g1, g2⟩ := f2 h
  rw [f1, hw] at h
  rw [hw] at g1 g2
  have e0 : (⟨#[]⟩ : ByteArray).size = 0 := rfl
  rw [e0, List.drop_zero, Nat.zero_add] at h
  rw [e0, List.drop_zero] at g1 g2
  rw [Bool.and_eq_true, Bool.and_eq_true] at h
  rw [g1, g2, num_back h.2.1, Nat.zero_add, List.take_add, ← (numD_take l).1]
  have := pfx_take h.2.2
  rw [he] at this
  rw [show bl.size = 1 from rfl] at this
  rw [this]
  rfl
theorem hex_back {t l : List UInt8} (h : unhexL l = some t) (hl : l.length = 8) : hexL (be4 (beV t)) = l := by
  have := unhex_len h
  rw [be4_beV t (by omega)]
  exact hex_unhex h
/-- a sum that is read, a blank or a line feed behind it -/
theorem sum_same2 {en : ByteArray} {e : UInt8} (he : en.data.toList = [e]) (hse : isSep e = true) (l : List UInt8) : (sumOk (wordL l) && pfx en (l.drop (wordL l).length)) = (rbOk false 4 l && pfx en (l.drop 8)) ∧ ((sumOk (wordL l) && pfx en (l.drop (wordL l).length)) = true → (wordL l).length = 8 ∧ sumV (wordL l) = rsV false l) := by
  have key : (sumOk (wordL l) && pfx en (l.drop (wordL l).length)) = true → (wordL l).length = 8 ∧ wordL l = l.take 8 ∧ (unhexL (l.take 8)).isSome = true ∧ pfx en (l.drop 8) = true := fun h => by
    rw [Bool.and_eq_true] at h
    unfold sumOk hexOk at h
    rw [Bool.and_eq_true] at h
    have hl : (wordL l).length = 8 := by simpa using h.1.1
    have hw := wordL_take l
    rw [hl] at hw h
    rw [hw] at h
    exact ⟨hl, hw, h.1.2, h.2⟩
  have back : (rbOk false 4 l && pfx en (l.drop 8)) = true → wordL l = l.take 8 ∧ 8 ≤ l.length ∧ (unhexL (l.take 8)).isSome = true ∧ pfx en (l.drop 8) = true := fun h => by
    rw [Bool.and_eq_true] at h
    unfold rbOk at h
    simp only [Bool.not_false, Bool.true_and, Bool.and_eq_true] at h
    refine ⟨?_, by simpa using h.1.1, h.1.2, h.2⟩
    unfold wordL
    exact takeWhile_take l 8 (unhexL_sep _ h.1.2) (fun _ => ⟨e, (pfx_one he h.2).2, by rw [hse]; rfl⟩)
  refine ⟨?_, fun h => ?_⟩
  · rw [Bool.eq_iff_iff]
    constructor
    · intro h
      obtain ⟨h1, h2, h3, h4⟩ := key h
      have h5 := wordL_le l
      rw [h4, Bool.and_true]
      unfold rbOk
      rw [show 2 * 4 = 8 from rfl, h3, decide_eq_true (by omega)]
      rfl
    · intro h
      obtain ⟨h1, h2, h3, h4⟩ := back h
      have hl : (wordL l).length = 8 := by rw [h1, List.length_take]; omega
      rw [hl, h4, Bool.and_true]
      unfold sumOk hexOk
      rw [decide_eq_true (by omega), h1, h3]
      rfl
  · obtain ⟨h1, h2, h3, h4⟩ := key h
    refine ⟨h1, ?_⟩
    have h5 := wordL_le l
    unfold sumV hexV rsV rbOk
    rw [if_pos (by omega), show 2 * 4 = 8 from rfl, h3, decide_eq_true (by omega), h2]
    rfl
/-- a field that is a sum, without a word ahead -/
theorem fld_sum {f : FD} {e : UInt8} (hsh : f.sh = 1) (hw : f.wd = ⟨#[]⟩) (he : f.en.data.toList = [e]) (hse : isSep e = true) (l : List UInt8) :
    fldOk f l = (rbOk false 4 l && pfx f.en (l.drop 8)) ∧ (fldOk f l = true → fldN f l = 9 ∧ (fldV f l).1 = (rsV false l : Int)) := by
  obtain ⟨s1, s2⟩ := sum_same2 he hse l
  have e0 : (⟨#[]⟩ : ByteArray).size = 0 := rfl
  have e2 : fldW f l = wordL l := by unfold fldW; rw [hw, e0, List.drop_zero]
  have e3 : fldOk f l = (sumOk (wordL l) && pfx f.en (l.drop (wordL l).length)) := by
    unfold fldOk
    rw [e2, hsh, hw, e0, List.drop_zero, empty_pfx]
    rfl
  refine ⟨by rw [e3, s1], fun h => ?_⟩
  rw [e3] at h
  obtain ⟨g1, g2⟩ := s2 h
  have hes : f.en.size = 1 := by rw [← size_data, he]; rfl
  refine ⟨?_, ?_⟩
  · unfold fldN; rw [e2, g1, hes, hw, e0]
  · unfold fldV; rw [e2, hsh]
    show (sumV _ : Int) = _
    rw [g2]
/-- a sum's line stands where a text goes on with it -/
theorem seal_pfx (K : Nat) (hK : K < 4294967296) (l : List UInt8) : pfx (strOf (sealL ⟨#[]⟩ K)) l = ((rbOk false 4 l && pfx nl (l.drop 8)) && decide ((rsV false l : Int) = (K : Int))) := by
  have hd : (strOf (sealL ⟨#[]⟩ K)).data.toList = hexL (be4 K) ++ [10] := rfl
  have hs : (strOf (sealL ⟨#[]⟩ K)).size = 9 := by rw [← size_data, hd, List.length_append, hexL_len]; rfl
  have hx : (hexL (be4 K)).length = 8 := by rw [hexL_len]; rfl
  rw [Bool.eq_iff_iff]
  constructor
  · intro h
    have ht := pfx_take h
    have hle := pfx_le h
    rw [hs] at ht hle
    rw [hd, show 9 = 8 + 1 from rfl, List.take_add] at ht
    obtain ⟨t1, t2⟩ := List.append_inj ht (by rw [List.length_take, hx]; omega)
    have hu : unhexL (l.take 8) = some (be4 K) := by rw [t1, unhex_hex]
    have hb : rbOk false 4 l = true := by
      unfold rbOk
      rw [show 2 * 4 = 8 from rfl, hu, decide_eq_true (by omega)]; rfl
    have hr : rsV false l = K := by unfold rsV; rw [if_pos hb, hu]; exact beV_be4 K hK
    rw [hb, hr, pfx_of_take (s := nl) (by exact t2)]
    simp
  · intro h
    rw [Bool.and_eq_true, Bool.and_eq_true] at h
    obtain ⟨⟨h1, h2⟩, h3⟩ := h
    have h3 := of_decide_eq_true h3
    have hr : rsV false l = beV ((unhexL (l.take 8)).getD []) := by unfold rsV; rw [if_pos h1]
    unfold rbOk at h1
    simp only [Bool.not_false, Bool.true_and, Bool.and_eq_true, decide_eq_true_eq] at h1
    obtain ⟨h1a, h1b⟩ := h1
    obtain ⟨t, ht⟩ := Option.isSome_iff_exists.1 h1b
    rw [show 2 * 4 = 8 from rfl] at ht h1a
    rw [ht] at hr
    have hk : beV t = K := by have : rsV false l = beV t := hr; omega
    have hb := hex_back ht (by rw [List.length_take]; omega)
    rw [hk] at hb
    apply pfx_of_take
    rw [hs, hd, show 9 = 8 + 1 from rfl, List.take_add, hb]
    congr 1
    exact pfx_take h2
end Go.Proofs.YtbcpfekbnkkflaaDoor
namespace Go.Proofs.YtbcpfekbnkkflaaDoor
open Go.RowKit Go.Shelf
theorem pnum_any (d : Int) (w : World) :
    Calls Tryd.prog 8 #[.int .i64 d] w fun e w' => e = .returned (.int .i64 d) ∧ w = w' := by
  go_enter Tryd.func8, Tryd.ntmps8
  go_wp2
  go_ret
  exact ⟨rfl, rfl⟩
set_option maxHeartbeats 2000000 in
set_option maxRecDepth 100000 in
theorem pointerAnswers_any (tx : ByteArray) (w : World) (htx : tx.size < 9223372036854775808) (hT4 : Tab4 0 w) :
    Calls Tryd.prog 17 #[.string tx] w fun e w' => e = .returned (.bool true) ∧ Below w.heap.size w w' := by
  have C1 := hide (parsePointer_any tx w htx hT4)
  have C2 := hide (fun w' => rparsePointer_any tx w' htx)
  obtain ⟨e0, e1, e2, e3, e4⟩ := ptr_err tx
  rw [e0, e1, e2, e3, e4] at C2
  clear e0 e1 e2 e3 e4
  generalize ptrPV tx 0 = A0 at *
  generalize ptrPV tx 1 = A1 at *
  generalize ptrPV tx 2 = A2 at *
  generalize ptrPV tx 3 = A3 at *
  generalize ptrPE tx = E at *
  go_enter Tryd.func17, Tryd.ntmps17
  go_wp2_with fail
  refine Calls.mono C1.out ?_
  rintro e w1 ⟨rfl, b1⟩
  have B1 := hide b1
  clear b1 C1
  obtain ⟨Wm, hWm⟩ : ∃ Wm, Wm = w1.alloc (.cells #[.int .i64 A0, .int .i64 A1, .int .i64 A2, .int .i64 A3] 42) := ⟨_, rfl⟩
  have bm : Below w1.heap.size w1 Wm := by rw [hWm]; exact (Below.refl _ _).alloc (Nat.le_refl _) _
  have sm : w1.heap.size < Wm.heap.size := by rw [hWm]; simp
  have km : Hid (∀ w', Below Wm.heap.size Wm w' → w'.cell? ⟨w1.heap.size, 0, none⟩ = some (.int .i64 A0) ∧ w'.cell? ⟨w1.heap.size, 1, none⟩ = some (.int .i64 A1) ∧ w'.cell? ⟨w1.heap.size, 2, none⟩ = some (.int .i64 A2) ∧ w'.cell? ⟨w1.heap.size, 3, none⟩ = some (.int .i64 A3)) := fun w' hb => by
    rw [hb.cell (by exact sm), hb.cell (by exact sm), hb.cell (by exact sm), hb.cell (by exact sm), hWm]
    exact ⟨by simp, by simp, by simp, by simp⟩
  have BM := hide bm
  clear bm
  go_wp2_with fail
  rw [← hWm]
  clear hWm
  refine Calls.mono (C2.out _) ?_
  rintro e w2 ⟨rfl, b2⟩
  obtain ⟨k0, k1, k2, k3⟩ := km.out _ b2
  have hl2 : w1.heap.size < w2.heap.size := Nat.lt_of_lt_of_le sm b2.size
  have B2 := hide ((B1.out.trans (BM.out.mono B1.out.size)).trans (b2.mono (B1.out.trans (BM.out.mono B1.out.size)).size))
  clear b2 C2 km
  go_wp2_with fail
  refine Calls.mono (pnum_any _ _) ?_
  rintro e w3 ⟨rfl, rfl⟩
  go_wp2_with fail
  go_ret
  exact ⟨rfl, B2.out.alloc B2.out.size _⟩
theorem ptrS_len (c p e s : Int) (hc : I64 c) (hp : I64 p) (he : I64 e) (hs : I64 s) : (ptrS c p e s).size < 9223372036854775808 := by
  unfold ptrS
  split
  · unfold paperS
    have z1 := itoa_len c hc.1 hc.2
    have z2 := itoa_len p hp.1 hp.2
    have z3 := itoa_len e he.1 he.2
    have z4 := itoa_len s hs.1 hs.2
    have t : ptrTitle.size = 17 := rfl
    have u : sumWd.size = 4 := rfl
    rw [ByteArray.size_append, ByteArray.size_append, strOf_size, strOf_size, sealL_len, t, u]
    unfold ptrL
    simp only [List.length_append, List.length_cons, List.length_nil]
    omega
  · decide
set_option maxHeartbeats 2000000 in
set_option maxRecDepth 100000 in
/-- the law PaperPointers -/
theorem pointers_any (c p e s : Int) (hc : I64 c) (hp : I64 p) (he : I64 e) (hs : I64 s) (tx : ByteArray) (w : World) (htx : tx.size < 9223372036854775808) (hT4 : Tab4 0 w) (hP : Pow w) :
    Calls Tryd.prog 5 #[.agg #[.int .i64 c, .int .i64 p, .int .i64 e, .int .i64 s], .string tx] w fun x w' => x = .returned (.bool true) ∧ Below w.heap.size w w' := by
  have hz := ptrS_len c p e s hc hp he hs
  obtain ⟨W0, hW0⟩ : ∃ W0, W0 = w.alloc (.cells #[.int .i64 c, .int .i64 p, .int .i64 e, .int .i64 s] 42) := ⟨_, rfl⟩
  have b0 : Below w.heap.size w W0 := by rw [hW0]; exact (Below.refl _ w).alloc (Nat.le_refl _) _
  have s0 : w.heap.size < W0.heap.size := by rw [hW0]; simp
  have km : Hid (∀ w', Below W0.heap.size W0 w' → w'.cell? ⟨w.heap.size, 0, none⟩ = some (.int .i64 c) ∧ w'.cell? ⟨w.heap.size, 1, none⟩ = some (.int .i64 p) ∧ w'.cell? ⟨w.heap.size, 2, none⟩ = some (.int .i64 e) ∧ w'.cell? ⟨w.heap.size, 3, none⟩ = some (.int .i64 s)) := fun w' hb => by
    rw [hb.cell (by exact s0), hb.cell (by exact s0), hb.cell (by exact s0), hb.cell (by exact s0), hW0]
    exact ⟨by simp, by simp, by simp, by simp⟩
  have C1 := hide (printPointer_any c p e s hc hp he hs W0 (hP.below b0) (hT4.below b0 hT4.lt))
  have C2 := hide (fun w' (hb : Below w.heap.size w w') => rprintPointer_any c p e s hc hp he hs w' (hP.below hb))
  have C3 := hide (fun w' (hb : Below w.heap.size w w') => pointerAnswers_any tx w' htx (hT4.below hb hT4.lt))
  have C4 := hide (fun w' (hb : Below w.heap.size w w') => pointerAnswers_any (ptrS c p e s) w' hz (hT4.below hb hT4.lt))
  generalize ptrS c p e s = S at *
  generalize ptrE c p e s = E at *
  have B0 := hide b0
  clear hT4 hP b0 hc hp he hs hz
  go_enter Tryd.func5, Tryd.ntmps5
  go_wp2_with fail
  rw [← hW0]
  clear hW0
  refine Calls.mono C1.out ?_
  rintro x w1 ⟨rfl, b1⟩
  obtain ⟨k0, k1, k2, k3⟩ := km.out _ b1
  have B1 := hide (B0.out.trans (b1.mono B0.out.size))
  have D2 := hide (C2.out w1 B1.out)
  clear b1 C1 C2 km
  go_wp2_with fail
  refine Calls.mono D2.out ?_
  rintro x w2 ⟨rfl, b2⟩
  have B2 := hide (B1.out.trans (b2.mono B1.out.size))
  have D3 := hide (C3.out w2 B2.out)
  clear b2 D2 C3 k0 k1 k2 k3
  go_wp2_with fail
  refine Calls.mono (pnum_any _ _) ?_
  rintro x w3 ⟨rfl, rfl⟩
  go_wp2_with fail
  refine Calls.mono D3.out ?_
  rintro x w4 ⟨rfl, b4⟩
  have B4 := hide (B2.out.trans (b4.mono B2.out.size))
  have D4 := hide (C4.out w4 B4.out)
  clear b4 D3 C4
  go_wp2_with fail
  refine Calls.mono D4.out ?_
  rintro x w5 ⟨rfl, b5⟩
  have B5 := hide (B4.out.trans (b5.mono B4.out.size))
  clear b5 D4
  go_wp2_with fail
  go_ret
  exact ⟨rfl, B5.out⟩
end Go.Proofs.YtbcpfekbnkkflaaDoor
namespace Go.Proofs.YtbcpfekbnkkflaaDoor
open Go.RowKit Go.Shelf
/-- notes in memory -/
def LiesN (b : Nat) (w : World) (l : List NV) : Prop := ∀ i (h : i < l.length), w.cell? ⟨b, i * 4, none⟩ = some (.int .i64 l[i].1) ∧ w.cell? ⟨b, i * 4 + 1, none⟩ = some (.int .i64 l[i].2.1) ∧ w.cell? ⟨b, i * 4 + 2, none⟩ = some (.int .i64 l[i].2.2.1) ∧ w.cell? ⟨b, i * 4 + 3, none⟩ = some (.int .i64 l[i].2.2.2)
theorem LiesN.below {b : Nat} {w w' : World} {l : List NV} (h : LiesN b w l) (hb : b < w.heap.size) (hw : Below w.heap.size w w') : LiesN b w' l := fun i hi => by
  rw [hw.cell (by exact hb), hw.cell (by exact hb), hw.cell (by exact hb), hw.cell (by exact hb)]; exact h i hi
theorem rowN_lies {w : World} {base g cap n : Nat} {l : List NV} {e : TypeId} (h : w.ownsRow base e 4 (.slice (some ⟨g, 0, none⟩) n cap) n (nc l)) (hn : l.length ≤ n) : LiesN g w l := by
  intro i hi
  have h0 := h.cellAt (i * 4) (by omega)
  have h1 := h.cellAt (i * 4 + 1) (by omega)
  have h2 := h.cellAt (i * 4 + 2) (by omega)
  have h3 := h.cellAt (i * 4 + 3) (by omega)
  obtain ⟨p0, p1, p2, p3⟩ := nc_at l i hi
  rw [h0, h1, h2, h3, p0, p1, p2, p3]
  exact ⟨rfl, rfl, rfl, rfl⟩
set_option maxHeartbeats 1000000 in
set_option maxRecDepth 100000 in
/-- sameNotes, of two lists that are the same -/
theorem sameNotes_any (a1 a2 : Option Addr) (b1 c1 b2 c2 : Nat) (l : List NV) (w : World) (h1 : 0 < l.length → a1 = some ⟨b1, 0, none⟩) (h2 : 0 < l.length → a2 = some ⟨b2, 0, none⟩) (hb1 : 0 < l.length → b1 < w.heap.size) (hb2 : 0 < l.length → b2 < w.heap.size) (hlen : l.length ≤ 4000000) (l1 : LiesN b1 w l) (l2 : LiesN b2 w l) :
    Calls Tryd.prog 13 #[.slice a1 l.length c1, .slice a2 l.length c2] w fun e w' => e = .returned (.bool true) ∧ Below w.heap.size w w' := by
  have L1 := hide l1
  have L2 := hide l2
  clear l1 l2
  go_enter Tryd.func13, Tryd.ntmps13
  go_wp2_with fail
  go_loopw [5] (fun i wr => ∃ k : Nat, k ≤ l.length ∧ i = .int .i64 k ∧ Below w.heap.size w wr) (fun i _ => l.length - (intOf i).toNat)
  case atStart => exact ⟨0, Nat.zero_le _, rfl, Below.refl _ _⟩
  case round =>
    obtain ⟨k, hk, rfl, hnx⟩ := hrel
    by_cases hlt : k < l.length
    · obtain rfl := h1 (by omega)
      obtain rfl := h2 (by omega)
      obtain ⟨d1, d2, d3, d4⟩ := L1.out.below (hb1 (by omega)) hnx k hlt
      obtain ⟨d5, d6, d7, d8⟩ := L2.out.below (hb2 (by omega)) hnx k hlt
      have hk1 : (k : Int) < (l.length : Int) := by omega
      have HNX := hide hnx
      clear hnx
      generalize l[k].1 = X at *
      generalize l[k].2.1 = Y at *
      generalize l[k].2.2.1 = Z at *
      generalize l[k].2.2.2 = V at *
      go_wp2_with fail
      go_quiet (fail)
      go_wp2
      go_roundw
      case rel => exact ⟨k + 1, by omega, by go_num, below_drewN HNX.out _⟩
      case measure => simp [intOf]; omega
    · have HNX := hide hnx
      clear hnx
      go_wp2
      go_ret
      exact ⟨rfl, HNX.out⟩
theorem own_notes {w : World} {base : Nat} {v : Value} {l : List NV} {e : TypeId} (h : w.ownsRow base e 4 v l.length (nc l)) : ∃ (a : Option Addr) (g c : Nat), v = .slice a l.length c ∧ (0 < l.length → a = some ⟨g, 0, none⟩) ∧ (0 < l.length → g < w.heap.size) ∧ LiesN g w l := by
  have h' := h
  obtain ⟨_, ⟨rfl, hn⟩ | ⟨g, cap, cur, rfl, _, hg, _⟩⟩ := h
  · exact ⟨none, 0, 0, by rw [hn], fun z => by omega, fun z => by omega, fun i hi => by omega⟩
  · exact ⟨_, g, cap, rfl, fun _ => rfl, fun _ => (Array.getElem?_eq_some_iff.1 hg).1, rowN_lies h' (Nat.le_refl _)⟩
set_option maxHeartbeats 2000000 in
set_option maxRecDepth 100000 in
theorem notesAnswer_any (tx : ByteArray) (w : World) (htx : tx.size ≤ 4000000) (hT4 : Tab4 0 w) (hP : Pow w) (hsame : SameAt tx) :
    Calls Tryd.prog 9 #[.string tx] w fun e w' => e = .returned (.bool true) ∧ Below w.heap.size w w' := by
  have C1 := hide (parseNotes_any tx w (by omega) hT4)
  have C2 := hide (fun w' (h : Below w.heap.size w w') => rparseNotes_any tx w' htx (hP.below h) hsame)
  clear hT4 hP hsame
  go_enter Tryd.func9, Tryd.ntmps9
  go_wp2_with fail
  refine Calls.mono C1.out ?_
  rintro e w1 ⟨v1, k1, l1, q1, rfl, n1, z1, o1, b1⟩
  have D2 := hide (C2.out w1 b1)
  have N1 := hide n1
  have Z1 := hide z1
  have O1 := hide o1
  have B1 := hide b1
  clear C1 C2 n1 z1 o1 b1
  go_wp2_with fail
  refine Calls.mono D2.out ?_
  rintro e w2 ⟨v2, k2, l2, q2, rfl, n2, z2, o2, b2⟩
  obtain ⟨rfl, rfl⟩ := notes_one N1.out Z1.out n2 z2
  have O1' := hide (own_below O1.out b2)
  have O2 := hide o2
  have B2 := hide (B1.out.trans (b2.mono B1.out.size))
  clear n2 z2 o2 b2 D2 O1 B1
  obtain ⟨a1, g1, c1, rfl, p1, p2, p3⟩ := own_notes O1'.out
  obtain ⟨a2, g2, c2, rfl, p4, p5, p6⟩ := own_notes O2.out
  have hl := (notesAt_le _ _ _ N1.out)
  have S := hide (fun w' (h : Below w2.heap.size w2 w') => sameNotes_any a1 a2 g1 c1 g2 c2 l1 w' p1 p4 (fun z => Nat.lt_of_lt_of_le (p2 z) h.size) (fun z => Nat.lt_of_lt_of_le (p5 z) h.size) (by omega) (fun i hi => p3.below (p2 (by omega)) h i hi) (fun i hi => p6.below (p5 (by omega)) h i hi))
  clear p1 p2 p3 p4 p5 p6 hl O1' O2
  go_wp2_with fail
  refine Calls.mono (S.out w2 (Below.refl _ _)) ?_
  rintro x w3 ⟨rfl, b3⟩
  have B3 := hide (B2.out.trans (b3.mono B2.out.size))
  clear b3 S B2
  go_wp2_with fail
  go_ret
  exact ⟨rfl, B3.out⟩
set_option maxHeartbeats 2000000 in
set_option maxRecDepth 100000 in
/-- the law PaperNotes -/
theorem notes_any (hsame : ∀ tx : ByteArray, tx.size ≤ 4000000 → SameAt tx) (c p e s : Int) (hc : I64 c) (hp : I64 p) (he : I64 e) (tx : ByteArray) (w : World) (htx : tx.size ≤ 2000000) (hT4 : Tab4 0 w) (hP : Pow w) :
    Calls Tryd.prog 3 #[.agg #[.int .i64 c, .int .i64 p, .int .i64 e, .int .i64 s], .string tx] w fun x w' => x = .returned (.bool true) ∧ Below w.heap.size w w' := by
  have hz := noteS_len c p e s hc hp he
  obtain ⟨W0, hW0⟩ : ∃ W0, W0 = w.alloc (.cells #[.int .i64 c, .int .i64 p, .int .i64 e, .int .i64 s] 23) := ⟨_, rfl⟩
  have b0 : Below w.heap.size w W0 := by rw [hW0]; exact (Below.refl _ w).alloc (Nat.le_refl _) _
  have s0 : w.heap.size < W0.heap.size := by rw [hW0]; simp
  have km : Hid (∀ w', Below W0.heap.size W0 w' → w'.cell? ⟨w.heap.size, 0, none⟩ = some (.int .i64 c) ∧ w'.cell? ⟨w.heap.size, 1, none⟩ = some (.int .i64 p) ∧ w'.cell? ⟨w.heap.size, 2, none⟩ = some (.int .i64 e) ∧ w'.cell? ⟨w.heap.size, 3, none⟩ = some (.int .i64 s)) := fun w' hb => by
    rw [hb.cell (by exact s0), hb.cell (by exact s0), hb.cell (by exact s0), hb.cell (by exact s0), hW0]
    exact ⟨by simp, by simp, by simp, by simp⟩
  have C1 := hide (printNote_any c p e s hc hp he W0 (hP.below b0) (hT4.below b0 hT4.lt))
  have C2 := hide (fun w' (hb : Below w.heap.size w w') => rprintNote_any c p e s hc hp he w' (hP.below hb))
  have C3 := hide (fun (t : ByteArray) (ht : t.size ≤ 4000000) w' (hb : Below w.heap.size w w') => notesAnswer_any t w' ht (hT4.below hb hT4.lt) (hP.below hb) (hsame t ht))
  generalize noteS c p e s = S at *
  generalize noteE c p e s = E at *
  have hcat : S.size + tx.size ≤ 4000000 := by omega
  have B0 := hide b0
  clear hT4 hP b0 hc hp he hsame
  go_enter Tryd.func3, Tryd.ntmps3
  go_wp2_with fail
  rw [← hW0]
  clear hW0
  refine Calls.mono C1.out ?_
  rintro x w1 ⟨rfl, b1⟩
  obtain ⟨k0, k1, k2, k3⟩ := km.out _ b1
  have B1 := hide (B0.out.trans (b1.mono B0.out.size))
  have D2 := hide (C2.out w1 B1.out)
  clear b1 C1 C2 km
  go_wp2_with fail
  refine Calls.mono D2.out ?_
  rintro x w2 ⟨rfl, b2⟩
  have B2 := hide (B1.out.trans (b2.mono B1.out.size))
  have D3 := hide (C3.out tx (by omega) w2 B2.out)
  clear b2 D2 k0 k1 k2 k3
  go_wp2_with fail
  refine Calls.mono (pnum_any _ _) ?_
  rintro x w3 ⟨rfl, rfl⟩
  go_wp2_with fail
  refine Calls.mono D3.out ?_
  rintro x w4 ⟨rfl, b4⟩
  have B4 := hide (B2.out.trans (b4.mono B2.out.size))
  have D4 := hide (C3.out S (by omega) w4 B4.out)
  clear b4 D3
  go_wp2_with fail
  refine Calls.mono D4.out ?_
  rintro x w5 ⟨rfl, b5⟩
  have B5 := hide (B4.out.trans (b5.mono B4.out.size))
  have D5 := hide (C3.out (S ++ tx) (by rw [ByteArray.size_append]; omega) w5 B5.out)
  clear b5 D4 C3
  go_wp2_with fail
  refine Calls.mono D5.out ?_
  rintro x w6 ⟨rfl, b6⟩
  have B6 := hide (B5.out.trans (b6.mono B5.out.size))
  clear b6 D5
  go_wp2_with fail
  go_ret
  exact ⟨rfl, B6.out⟩
end Go.Proofs.YtbcpfekbnkkflaaDoor
