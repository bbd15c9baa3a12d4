import Derived.Test.YtfpalfpfijcpbaaGreatDoorPnRead
import Derived.Laws.AppendOwnNone
import Derived.OwnWalk
import Derived.Test.YtfpalfpfijcpbaaGreatDoorGPaRfQ
namespace Go.Proofs.YtfpalfpfijcpbaaGreatDoor
open Go.RowKit Go.Shelf
abbrev NV := Int × Int × Int × Int
/-- the cells of notes -/
def nc (l : List NV) : List Value := l.flatMap fun n => [.int .i64 n.1, .int .i64 n.2.1, .int .i64 n.2.2.1, .int .i64 n.2.2.2]
theorem nc_append (a b : List NV) : nc (a ++ b) = nc a ++ nc b := by simp [nc]
theorem nc_one (l : List NV) : ∀ u ∈ nc l, u.oneCell' = true := by
  intro u hu
  obtain ⟨p, _, hp⟩ := List.mem_flatMap.1 hu
  simp at hp
  rcases hp with rfl | rfl | rfl | rfl <;> rfl
theorem nc_one_len (n : NV) : (nc [n]).length = 1 * 4 := rfl
theorem nc_at (l : List NV) : ∀ i (h : i < l.length), (nc l)[i * 4]? = some (.int .i64 l[i].1) ∧ (nc l)[i * 4 + 1]? = some (.int .i64 l[i].2.1) ∧ (nc l)[i * 4 + 2]? = some (.int .i64 l[i].2.2.1) ∧ (nc l)[i * 4 + 3]? = some (.int .i64 l[i].2.2.2) := by
  induction l with
  | nil => intro i h; simp at h
  | cons p r ih =>
    intro i h
    cases i with
    | zero => exact ⟨rfl, rfl, rfl, rfl⟩
    | succ i =>
      have := ih i (by simpa using h)
      have e : nc (p :: r) = .int .i64 p.1 :: .int .i64 p.2.1 :: .int .i64 p.2.2.1 :: .int .i64 p.2.2.2 :: nc r := rfl
      rw [e, show (i + 1) * 4 = i * 4 + 1 + 1 + 1 + 1 by omega, show i * 4 + 1 + 1 + 1 + 1 + 1 = i * 4 + 1 + 1 + 1 + 1 + 1 from rfl, show i * 4 + 1 + 1 + 1 + 1 + 2 = i * 4 + 2 + 1 + 1 + 1 + 1 by omega, show i * 4 + 1 + 1 + 1 + 1 + 3 = i * 4 + 3 + 1 + 1 + 1 + 1 by omega]
      simpa using this
theorem own_below {w w' : World} {base e sz n : Nat} {v : Value} {xs : List Value} (h : w.ownsRow base e sz v n xs) (hb : Below w.heap.size w w') : w'.ownsRow base e sz v n xs := by
  refine h.kept (row := none) ⟨hb.os, hb.tape, hb.output, hb.size, fun k hk _ => hb.block k hk⟩ ?_
  rcases hv : v.ownBlock with _ | _
  · exact .inl rfl
  · exact .inr (by simp)
theorem le_alloc {B : Nat} {w : World} {o : Obj} (h : B ≤ w.heap.size) : B ≤ (w.alloc o).heap.size := by simp; omega
theorem infoN : (Tryz.prog.info? 27).map (fun i => (i.zero, i.size, i.bytes)) = some (some (.agg #[.int .i64 0, .int .i64 0, .int .i64 0, .int .i64 0]), 4, 32) := by kernel_rfl
theorem nc_four (n : NV) : nc [n] = (#[.int .i64 n.1, .int .i64 n.2.1, .int .i64 n.2.2.1, .int .i64 n.2.2.2] : Array Value).toList := rfl
theorem cell_note (w : World) (n : NV) : ∀ j u, (nc [n])[j]? = some u → (w.alloc (.cells #[.int .i64 n.1, .int .i64 n.2.1, .int .i64 n.2.2.1, .int .i64 n.2.2.2] 27)).cell? ((⟨w.heap.size, 0, none⟩ : Addr).add j) = some u := by
  rw [nc_four]
  exact (World.ownsRow_lit (base := 0) (e := 27) (size := 4) w _ 1 (by omega) (by unfold maxLen; omega) rfl).cells (g := w.heap.size) rfl
theorem cell_note2 (w : World) (o : Obj) (n : NV) : ∀ j u, (nc [n])[j]? = some u → ((w.alloc o).alloc (.cells #[.int .i64 n.1, .int .i64 n.2.1, .int .i64 n.2.2.1, .int .i64 n.2.2.2] 27)).cell? ((⟨w.heap.size + 1, 0, none⟩ : Addr).add j) = some u := by
  have := cell_note (w.alloc o) n
  rwa [show (w.alloc o).heap.size = w.heap.size + 1 by simp] at this
/-- the note at a place of a text, its line's length -/
def nvAt (tx : ByteArray) (q : Nat) : NV := (ntV (restS tx q) 0, ntV (restS tx q) 1, ntV (restS tx q) 2, ntV (restS tx q) 3)
def nsz (tx : ByteArray) (q : Nat) : Nat := ntSize (restS tx q)
/-- the first k notes, and the place behind them -/
def notesAt (tx : ByteArray) : Nat → Option (List NV × Nat)
  | 0 => some ([], 0)
  | k + 1 => match notesAt tx k with
    | none => none
    | some (l, q) => if nsz tx q = 0 then none else some (l ++ [nvAt tx q], q + nsz tx q)
theorem ntSize_le (tx : ByteArray) : ntSize tx ≤ tx.size := by
  unfold ntSize
  by_cases h : ntOk tx = true
  · rw [if_pos h]
    unfold ntOk at h
    simp only [Bool.and_eq_true] at h
    obtain ⟨h1, h2, _⟩ := h
    have a1 := tabN_le _ _ h1
    rw [size_data] at a1
    unfold unsFit at h2
    simp only [Bool.and_eq_true] at h2
    have a2 := fldN_le h2.1
    rw [List.length_drop, size_data] at a2
    have a1' : ntN tx ≤ tx.size := a1
    unfold unsN
    omega
  · rw [if_neg h]; omega
theorem nsz_le {tx : ByteArray} {q : Nat} (h : q ≤ tx.size) : q + nsz tx q ≤ tx.size := by
  have := ntSize_le (restS tx q)
  rw [restS_size] at this
  unfold nsz; omega
theorem notesAt_le {tx : ByteArray} : ∀ k l q, notesAt tx k = some (l, q) → l.length = k ∧ q ≤ tx.size ∧ k ≤ q := by
  intro k
  induction k with
  | zero => intro l q h; simp [notesAt] at h; obtain ⟨rfl, rfl⟩ := h; simp
  | succ k ih =>
    intro l q h
    rw [notesAt] at h
    split at h
    · cases h
    · rename_i l' q' h'
      obtain ⟨a, b, c⟩ := ih _ _ h'
      by_cases hz : nsz tx q' = 0
      · rw [if_pos hz] at h; cases h
      · rw [if_neg hz] at h
        simp only [Option.some.injEq, Prod.mk.injEq] at h
        obtain ⟨rfl, rfl⟩ := h
        exact ⟨by simp [a], nsz_le b, by omega⟩
theorem notes_step {tx : ByteArray} {k : Nat} {l : List NV} {q : Nat} (h : notesAt tx k = some (l, q)) (hz : nsz tx q ≠ 0) : notesAt tx (k + 1) = some (l ++ [nvAt tx q], q + nsz tx q) := by
  rw [notesAt, h]; simp only; rw [if_neg hz]
theorem notes_none {tx : ByteArray} {k : Nat} {l : List NV} {q : Nat} (h : notesAt tx k = some (l, q)) (hz : nsz tx q = 0) (t : Nat) : notesAt tx (k + 1 + t) = none := by
  induction t with
  | zero => show notesAt tx (k + 1) = none; rw [notesAt, h]; simp only; rw [if_pos hz]
  | succ t ih => rw [show k + 1 + (t + 1) = k + 1 + t + 1 by omega, notesAt, ih]
theorem notes_one {tx : ByteArray} {k k' : Nat} {l l' : List NV} {q q' : Nat} (h : notesAt tx k = some (l, q)) (hz : nsz tx q = 0) (h' : notesAt tx k' = some (l', q')) (hz' : nsz tx q' = 0) : l = l' ∧ q = q' := by
  rcases Nat.lt_trichotomy k k' with c | c | c
  · have := notes_none h hz (k' - (k + 1)); rw [show k + 1 + (k' - (k + 1)) = k' by omega, h'] at this; cases this
  · subst c; rw [h] at h'; cases h'; exact ⟨rfl, rfl⟩
  · have := notes_none h' hz' (k - (k' + 1)); rw [show k' + 1 + (k - (k' + 1)) = k by omega, h] at this; cases this
theorem note_room {k : Nat} (h : k ≤ 1000000000000) : k + 1 ≤ maxLen ∧ (k + 1) * 32 ≤ 140737488355328 := by unfold maxLen; omega
set_option maxHeartbeats 2000000 in
set_option maxRecDepth 100000 in
theorem parseNotes_any (tx : ByteArray) (w : World) (htx : tx.size ≤ 1000000000000) (hT4 : Tab4 0 w) :
    Calls Tryz.prog 18 #[.string tx] w fun e w' => ∃ (v : Value) (k : Nat) (l : List NV) (q : Nat), e = .returned (.tuple #[v, .int .i64 (q : Int)]) ∧ notesAt tx k = some (l, q) ∧ nsz tx q = 0 ∧ w'.ownsRow w.heap.size 27 4 v l.length (nc l) ∧ Below w.heap.size w w' := by
  obtain ⟨i0, hi, hz0, hz1, hz2⟩ := info_parts infoN
  have RN := hide (fun q w' (hb : Below w.heap.size w w') => readNote_any (restS tx q) w' (by rw [restS_size]; omega) (hT4.below hb hT4.lt))
  clear hT4
  go_enter Tryz.func18, Tryz.ntmps18
  go_wp2_with fail
  go_loopw [4, 5] (fun v g wr => ∃ (k : Nat) (l : List NV) (q : Nat), g = .int .i64 (q : Int) ∧ notesAt tx k = some (l, q) ∧ wr.ownsRow w.heap.size 27 4 v l.length (nc l) ∧ Below w.heap.size w wr)
    (fun _ g _ => tx.size - (intOf g).toNat)
  case atStart => exact ⟨0, [], 0, rfl, rfl, World.ownsRow_nil _ _ _ _, Below.refl _ _⟩
  case round =>
    obtain ⟨k, l, q, rfl, hpa, hown, hnx⟩ := hrel
    have hsz := hnx.size
    obtain ⟨hl1, hq1, hk1⟩ := notesAt_le _ _ _ hpa
    have hq2 := nsz_le hq1
    have HPA := hide hpa
    have HNX := hide hnx
    have HOWN := hide hown
    have RQ := hide (RN.out q wr hnx)
    clear hpa hnx hown
    have ER : restS tx q = tx.extract q tx.size := rfl
    by_cases hz : nsz tx q = 0
    · have HZ := hide hz
      unfold nsz at hz
      rw [hz] at RQ
      rw [ER] at RQ
      clear hz hq2
      go_wp2_with fail
      refine Calls.mono RQ.out ?_
      rintro e w1 ⟨rfl, b1⟩
      have B1 := hide (HNX.out.trans (b1.mono hsz))
      have O1 := hide (own_below HOWN.out b1)
      clear b1 RQ
      go_wp2_with fail
      go_ret2
      exact ⟨_, k, l, q, rfl, HPA.out, HZ.out, O1.out.alloc _, B1.out.alloc B1.out.size _⟩
    · have HST := hide (notes_step HPA.out hz)
      have hzp : 0 < nsz tx q := by omega
      have ez : ntSize (restS tx q) = nsz tx q := rfl
      rw [ez] at RQ
      rw [ER] at RQ
      have PV : ∃ n : NV, n = nvAt tx q := ⟨_, rfl⟩
      obtain ⟨n, hn⟩ := PV
      have RQ' : Hid (Calls Tryz.prog 42 #[.string (tx.extract q tx.size)] wr fun x w' => x = .returned (.tuple #[.agg #[.int .i64 n.1, .int .i64 n.2.1, .int .i64 n.2.2.1, .int .i64 n.2.2.2], .int .i64 (nsz tx q : Int)]) ∧ Below wr.heap.size wr w') := by rw [hn]; exact RQ.out
      rw [← hn] at HST
      clear hn RQ ez ER
      generalize nsz tx q = Z at *
      have hzi : ((Z : Int) == 0) = false := by simp; omega
      obtain ⟨hm1, hm2⟩ := note_room (k := l.length) (by omega)
      go_wp2_with fail
      refine Calls.mono RQ'.out ?_
      rintro e w1 ⟨rfl, b1⟩
      have B1' := HNX.out.trans (b1.mono hsz)
      have s1 := B1'.size
      have O1 := hide (own_below HOWN.out b1)
      have B1 := hide B1'
      clear b1 RQ' B1'
      go_wp2_with (at_builtin; refine wpList_append_own _ rfl _ _ 41 rfl w.heap.size 27 i0 (.agg #[.int .i64 0, .int .i64 0, .int .i64 0, .int .i64 0]) 4 32 Tryz.underlying41 hi hz0 hz1 hz2 rfl (by decide) _ _ _ rfl ((O1.out.alloc _).alloc _) ⟨w1.heap.size + 1, 0, none⟩ 1 1 (nc [n]) rfl (nc_one_len n) (cell_note2 w1 _ n) (nc_one _) hm1 hm2 (le_alloc (le_alloc s1)) ?_; intro v2 w2 o2 g2 n2; clear n2)
      go_roundw
      case rel =>
        refine ⟨k + 1, l ++ [n], q + Z, by go_num, HST.out, ?_, ?_⟩
        · rw [nc_append, List.length_append]
          exact o2
        · exact ((B1.out.alloc s1 _).alloc (le_alloc s1) _).grown g2 (le_alloc (le_alloc s1)) (fun j hj => (O1.out.lt j hj).1)
      case measure => simp [intOf]; omega
end Go.Proofs.YtfpalfpfijcpbaaGreatDoor
namespace Go.Proofs.YtfpalfpfijcpbaaGreatDoor
open Go.RowKit Go.Shelf
def SameAt (tx : ByteArray) : Prop := ∀ a, a ≤ tx.size → rtSize tx a = nsz tx a ∧ rtV tx a (ntC tx a) = (nvAt tx a).1 ∧ rtV tx a (ntP tx a) = (nvAt tx a).2.1 ∧ rtV tx a (ntU tx a) = (nvAt tx a).2.2.1 ∧ rtV tx a (ntX tx a) = (nvAt tx a).2.2.2
theorem nsz_end (tx : ByteArray) : nsz tx tx.size = 0 := by have := nsz_le (Nat.le_refl tx.size); omega
end Go.Proofs.YtfpalfpfijcpbaaGreatDoor
namespace Go.Proofs.YtfpalfpfijcpbaaGreatDoor
open Go.RowKit Go.Shelf
theorem beV_be4 (K : Nat) (h : K < 4294967296) : beV (be4 K) = K := by
  unfold beV be4
  simp only [List.foldl_cons, List.foldl_nil, UInt8.toNat_ofNat']
  omega
theorem be4_beV : ∀ t : List UInt8, t.length = 4 → be4 (beV t) = t
  | [b0, b1, b2, b3], _ => by
    have h0 := b0.toNat_lt
    have h1 := b1.toNat_lt
    have h2 := b2.toNat_lt
    have h3 := b3.toNat_lt
    unfold beV be4
    simp only [List.foldl_cons, List.foldl_nil, List.cons.injEq, and_true]
    refine ⟨?_, ?_, ?_, ?_⟩ <;> (apply UInt8.toNat_inj.1; rw [UInt8.toNat_ofNat']; omega)
theorem dec_back : ∀ (n : Nat) (d : List UInt8), d.length = n → d.all isDig = true → d ≠ [] → d.head? ≠ some 48 → Lib.decDigits (valD d) = d ∧ 1 ≤ valD d := by
  intro n
  induction n with
  | zero => intro d h _ hn _; exact absurd (List.length_eq_zero_iff.1 h) hn
  | succ n ih =>
    intro d hd ha hn hh
    obtain ⟨r, c, rfl⟩ : ∃ r c, d = r ++ [c] := ⟨d.dropLast, d.getLast hn, (List.dropLast_concat_getLast hn).symm⟩
    rw [List.all_append, Bool.and_eq_true] at ha
    have hc : isDig c = true := by simpa using ha.2
    have hc2 : 48 ≤ c.toNat ∧ c.toNat ≤ 57 := by unfold isDig at hc; simpa using hc
    have hcc : UInt8.ofNat (48 + (c.toNat - 48)) = c := by apply UInt8.toNat_inj.1; rw [UInt8.toNat_ofNat']; omega
    rw [valD_snoc]
    by_cases hr : r = []
    · subst hr
      have hv : valD [] = 0 := rfl
      rw [hv]
      have hc0 : c ≠ 48 := fun e => hh (by rw [e]; rfl)
      have hc1 : c.toNat ≠ 48 := fun e => hc0 (UInt8.toNat_inj.1 (by rw [e]; rfl))
      refine ⟨?_, by omega⟩
      rw [Lib.decDigits, dif_pos (by omega), show 10 * 0 + (c.toNat - 48) = c.toNat - 48 by omega, hcc]
      rfl
    · obtain ⟨h1, h2⟩ := ih r (by simp at hd; omega) ha.1 hr (by cases r with | nil => exact absurd rfl hr | cons x y => simpa using hh)
      refine ⟨?_, by omega⟩
      rw [Lib.decDigits, dif_neg (by omega), show (10 * valD r + (c.toNat - 48)) / 10 = valD r by omega, show (10 * valD r + (c.toNat - 48)) % 10 = c.toNat - 48 by omega, h1, hcc]
/-- a number that the document reads is printed as it stood -/
theorem num_back {l : List UInt8} (h : rnOk l = true) : Lib.itoa (rnV l : Int) = numD l := by
  have hv : rnV l = valD (numD l) := by unfold rnV; rw [if_pos h]
  unfold rnOk at h
  simp only [Bool.and_eq_true, decide_eq_true_eq, Bool.not_eq_true'] at h
  obtain ⟨⟨h1, h2⟩, h3⟩ := h
  obtain ⟨t1, t2⟩ := numD_take l
  have hne : numD l ≠ [] := fun e => by rw [e] at h1; simp at h1
  have hhd : (numD l).head? = l.head? := by
    rw [t1]
    cases l with
    | nil => simp
    | cons x y => obtain ⟨j, hj⟩ : ∃ j, (numD (x :: y)).length = j + 1 := ⟨(numD (x :: y)).length - 1, by omega⟩; rw [hj]; rfl
  unfold Lib.itoa
  rw [if_neg (by omega), Int.toNat_natCast, hv]
  by_cases hz : (numD l).head? = some 48
  · have hl1 : (numD l).length = 1 := by
      rw [hhd] at hz
      rw [hz] at h3
      simp at h3
      omega
    obtain ⟨x, hx⟩ : ∃ x, numD l = [x] := List.length_eq_one_iff.1 hl1
    rw [hx] at hz ⊢
    simp at hz
    subst hz
    rw [Lib.decDigits]
    decide
  · exact (dec_back _ _ rfl t2 hne hz).1
theorem pfx_take {s : ByteArray} {l : List UInt8} (h : pfx s l = true) : l.take s.size = s.data.toList := by
  unfold pfx at h
  rw [List.isPrefixOf_iff_prefix, List.prefix_iff_eq_take, size_data] at h
  exact h.symm
theorem pfx_of_take {s : ByteArray} {l : List UInt8} (h : l.take s.size = s.data.toList) : pfx s l = true := by
  unfold pfx
  rw [List.isPrefixOf_iff_prefix, List.prefix_iff_eq_take, size_data]
  exact h.symm
/-- a field that is a number, a blank behind it, is printed as it stood -/
theorem fld_back {f : FD} (hsh : f.sh = 0) (hw : f.wd = ⟨#[]⟩) (he : f.en = bl) {l : List UInt8} (h : fldOk f l = true) : l.take (fldN f l) = [] ++ Lib.itoa (fldV f l).1 ++ [32] := by
  obtain ⟨f1, f2⟩ := fld_num hsh (by rw [he]; rfl : f.en.data.toList = [32]) rfl rfl l
  obtain ⟨g1, g2⟩ := f2 h
  rw [f1, hw] at h
  rw [hw] at g1 g2
  have e0 : (⟨#[]⟩ : ByteArray).size = 0 := rfl
  rw [e0, List.drop_zero, Nat.zero_add] at h
  rw [e0, List.drop_zero] at g1 g2
  rw [Bool.and_eq_true, Bool.and_eq_true] at h
  rw [g1, g2, num_back h.2.1, Nat.zero_add, List.take_add, ← (numD_take l).1]
  have := pfx_take h.2.2
  rw [he] at this
  rw [show bl.size = 1 from rfl] at this
  rw [this]
  rfl
theorem hex_back {t l : List UInt8} (h : unhexL l = some t) (hl : l.length = 8) : hexL (be4 (beV t)) = l := by
  have := unhex_len h
  rw [be4_beV t (by omega)]
  exact hex_unhex h
/-- a sum that is read, a blank or a line feed behind it -/
theorem sum_same2 {en : ByteArray} {e : UInt8} (he : en.data.toList = [e]) (hse : isSep e = true) (l : List UInt8) : (sumOk (wordL l) && pfx en (l.drop (wordL l).length)) = (rbOk false 4 l && pfx en (l.drop 8)) ∧ ((sumOk (wordL l) && pfx en (l.drop (wordL l).length)) = true → (wordL l).length = 8 ∧ sumV (wordL l) = rsV false l) := by
  have key : (sumOk (wordL l) && pfx en (l.drop (wordL l).length)) = true → (wordL l).length = 8 ∧ wordL l = l.take 8 ∧ (unhexL (l.take 8)).isSome = true ∧ pfx en (l.drop 8) = true := fun h => by
    rw [Bool.and_eq_true] at h
    unfold sumOk hexOk at h
    rw [Bool.and_eq_true] at h
    have hl : (wordL l).length = 8 := by simpa using h.1.1
    have hw := wordL_take l
    rw [hl] at hw h
    rw [hw] at h
    exact ⟨hl, hw, h.1.2, h.2⟩
  have back : (rbOk false 4 l && pfx en (l.drop 8)) = true → wordL l = l.take 8 ∧ 8 ≤ l.length ∧ (unhexL (l.take 8)).isSome = true ∧ pfx en (l.drop 8) = true := fun h => by
    rw [Bool.and_eq_true] at h
    unfold rbOk at h
    simp only [Bool.not_false, Bool.true_and, Bool.and_eq_true] at h
    refine ⟨?_, by simpa using h.1.1, h.1.2, h.2⟩
    unfold wordL
    exact takeWhile_take l 8 (unhexL_sep _ h.1.2) (fun _ => ⟨e, (pfx_one he h.2).2, by rw [hse]; rfl⟩)
  refine ⟨?_, fun h => ?_⟩
  · rw [Bool.eq_iff_iff]
    constructor
    · intro h
      obtain ⟨h1, h2, h3, h4⟩ := key h
      have h5 := wordL_le l
      rw [h4, Bool.and_true]
      unfold rbOk
      rw [show 2 * 4 = 8 from rfl, h3, decide_eq_true (by omega)]
      rfl
    · intro h
      obtain ⟨h1, h2, h3, h4⟩ := back h
      have hl : (wordL l).length = 8 := by rw [h1, List.length_take]; omega
      rw [hl, h4, Bool.and_true]
      unfold sumOk hexOk
      rw [decide_eq_true (by omega), h1, h3]
      rfl
  · obtain ⟨h1, h2, h3, h4⟩ := key h
    refine ⟨h1, ?_⟩
    have h5 := wordL_le l
    unfold sumV hexV rsV rbOk
    rw [if_pos (by omega), show 2 * 4 = 8 from rfl, h3, decide_eq_true (by omega), h2]
    rfl
/-- a field that is a sum, without a word ahead -/
theorem fld_sum {f : FD} {e : UInt8} (hsh : f.sh = 1) (hw : f.wd = ⟨#[]⟩) (he : f.en.data.toList = [e]) (hse : isSep e = true) (l : List UInt8) :
    fldOk f l = (rbOk false 4 l && pfx f.en (l.drop 8)) ∧ (fldOk f l = true → fldN f l = 9 ∧ (fldV f l).1 = (rsV false l : Int)) := by
  obtain ⟨s1, s2⟩ := sum_same2 he hse l
  have e0 : (⟨#[]⟩ : ByteArray).size = 0 := rfl
  have e2 : fldW f l = wordL l := by unfold fldW; rw [hw, e0, List.drop_zero]
  have e3 : fldOk f l = (sumOk (wordL l) && pfx f.en (l.drop (wordL l).length)) := by
    unfold fldOk
    rw [e2, hsh, hw, e0, List.drop_zero, empty_pfx]
    rfl
  refine ⟨by rw [e3, s1], fun h => ?_⟩
  rw [e3] at h
  obtain ⟨g1, g2⟩ := s2 h
  have hes : f.en.size = 1 := by rw [← size_data, he]; rfl
  refine ⟨?_, ?_⟩
  · unfold fldN; rw [e2, g1, hes, hw, e0]
  · unfold fldV; rw [e2, hsh]
    show (sumV _ : Int) = _
    rw [g2]
/-- a sum's line stands where a text goes on with it -/
theorem seal_pfx (K : Nat) (hK : K < 4294967296) (l : List UInt8) : pfx (strOf (sealL ⟨#[]⟩ K)) l = ((rbOk false 4 l && pfx nl (l.drop 8)) && decide ((rsV false l : Int) = (K : Int))) := by
  have hd : (strOf (sealL ⟨#[]⟩ K)).data.toList = hexL (be4 K) ++ [10] := rfl
  have hs : (strOf (sealL ⟨#[]⟩ K)).size = 9 := by rw [← size_data, hd, List.length_append, hexL_len]; rfl
  have hx : (hexL (be4 K)).length = 8 := by rw [hexL_len]; rfl
  rw [Bool.eq_iff_iff]
  constructor
  · intro h
    have ht := pfx_take h
    have hle := pfx_le h
    rw [hs] at ht hle
    rw [hd, show 9 = 8 + 1 from rfl, List.take_add] at ht
    obtain ⟨t1, t2⟩ := List.append_inj ht (by rw [List.length_take, hx]; omega)
    have hu : unhexL (l.take 8) = some (be4 K) := by rw [t1, unhex_hex]
    have hb : rbOk false 4 l = true := by
      unfold rbOk
      rw [show 2 * 4 = 8 from rfl, hu, decide_eq_true (by omega)]; rfl
    have hr : rsV false l = K := by unfold rsV; rw [if_pos hb, hu]; exact beV_be4 K hK
    rw [hb, hr, pfx_of_take (s := nl) (by exact t2)]
    simp
  · intro h
    rw [Bool.and_eq_true, Bool.and_eq_true] at h
    obtain ⟨⟨h1, h2⟩, h3⟩ := h
    have h3 := of_decide_eq_true h3
    have hr : rsV false l = beV ((unhexL (l.take 8)).getD []) := by unfold rsV; rw [if_pos h1]
    unfold rbOk at h1
    simp only [Bool.not_false, Bool.true_and, Bool.and_eq_true, decide_eq_true_eq] at h1
    obtain ⟨h1a, h1b⟩ := h1
    obtain ⟨t, ht⟩ := Option.isSome_iff_exists.1 h1b
    rw [show 2 * 4 = 8 from rfl] at ht h1a
    rw [ht] at hr
    have hk : beV t = K := by have : rsV false l = beV t := hr; omega
    have hb := hex_back ht (by rw [List.length_take]; omega)
    rw [hk] at hb
    apply pfx_of_take
    rw [hs, hd, show 9 = 8 + 1 from rfl, List.take_add, hb]
    congr 1
    exact pfx_take h2
end Go.Proofs.YtfpalfpfijcpbaaGreatDoor
namespace Go.Proofs.YtfpalfpfijcpbaaGreatDoor
open Go.RowKit Go.Shelf
theorem pnum_any (d : Int) (w : World) :
    Calls Tryz.prog 12 #[.int .i64 d] w fun e w' => e = .returned (.int .i64 d) ∧ w = w' := by
  go_enter Tryz.func12, Tryz.ntmps12
  go_wp2
  go_ret
  exact ⟨rfl, rfl⟩
theorem ptrS_len (c p e s : Int) (hc : I64 c) (hp : I64 p) (he : I64 e) (hs : I64 s) : (ptrS c p e s).size < 9223372036854775808 := by
  unfold ptrS
  split
  · unfold paperS
    have z1 := itoa_len c hc.1 hc.2
    have z2 := itoa_len p hp.1 hp.2
    have z3 := itoa_len e he.1 he.2
    have z4 := itoa_len s hs.1 hs.2
    have t : ptrTitle.size = 17 := rfl
    have u : sumWd.size = 4 := rfl
    rw [ByteArray.size_append, ByteArray.size_append, strOf_size, strOf_size, sealL_len, t, u]
    unfold ptrL
    simp only [List.length_append, List.length_cons, List.length_nil]
    omega
  · decide
end Go.Proofs.YtfpalfpfijcpbaaGreatDoor
namespace Go.Proofs.YtfpalfpfijcpbaaGreatDoor
open Go.RowKit Go.Shelf
/-- notes in memory -/
def LiesN (b : Nat) (w : World) (l : List NV) : Prop := ∀ i (h : i < l.length), w.cell? ⟨b, i * 4, none⟩ = some (.int .i64 l[i].1) ∧ w.cell? ⟨b, i * 4 + 1, none⟩ = some (.int .i64 l[i].2.1) ∧ w.cell? ⟨b, i * 4 + 2, none⟩ = some (.int .i64 l[i].2.2.1) ∧ w.cell? ⟨b, i * 4 + 3, none⟩ = some (.int .i64 l[i].2.2.2)
theorem LiesN.below {b : Nat} {w w' : World} {l : List NV} (h : LiesN b w l) (hb : b < w.heap.size) (hw : Below w.heap.size w w') : LiesN b w' l := fun i hi => by
  rw [hw.cell (by exact hb), hw.cell (by exact hb), hw.cell (by exact hb), hw.cell (by exact hb)]; exact h i hi
theorem rowN_lies {w : World} {base g cap n : Nat} {l : List NV} {e : TypeId} (h : w.ownsRow base e 4 (.slice (some ⟨g, 0, none⟩) n cap) n (nc l)) (hn : l.length ≤ n) : LiesN g w l := by
  intro i hi
  have h0 := h.cellAt (i * 4) (by omega)
  have h1 := h.cellAt (i * 4 + 1) (by omega)
  have h2 := h.cellAt (i * 4 + 2) (by omega)
  have h3 := h.cellAt (i * 4 + 3) (by omega)
  obtain ⟨p0, p1, p2, p3⟩ := nc_at l i hi
  rw [h0, h1, h2, h3, p0, p1, p2, p3]
  exact ⟨rfl, rfl, rfl, rfl⟩
theorem own_notes {w : World} {base : Nat} {v : Value} {l : List NV} {e : TypeId} (h : w.ownsRow base e 4 v l.length (nc l)) : ∃ (a : Option Addr) (g c : Nat), v = .slice a l.length c ∧ (0 < l.length → a = some ⟨g, 0, none⟩) ∧ (0 < l.length → g < w.heap.size) ∧ LiesN g w l := by
  have h' := h
  obtain ⟨_, ⟨rfl, hn⟩ | ⟨g, cap, cur, rfl, _, hg, _⟩⟩ := h
  · exact ⟨none, 0, 0, by rw [hn], fun z => by omega, fun z => by omega, fun i hi => by omega⟩
  · exact ⟨_, g, cap, rfl, fun _ => rfl, fun _ => (Array.getElem?_eq_some_iff.1 hg).1, rowN_lies h' (Nat.le_refl _)⟩
end Go.Proofs.YtfpalfpfijcpbaaGreatDoor
