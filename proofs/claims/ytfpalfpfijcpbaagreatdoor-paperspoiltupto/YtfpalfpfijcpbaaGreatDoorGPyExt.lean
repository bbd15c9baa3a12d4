import Derived.Test.YtfpalfpfijcpbaaGreatDoorGPyFwd
import Derived.Test.YtfpalfpfijcpbaaGreatDoorGPnSame
namespace Go.Proofs.YtfpalfpfijcpbaaGreatDoor
open Go.RowKit Go.Shelf
def SepF (f : FD) : Prop := ∃ b er, f.en.data.toList = b :: er ∧ isSep b = true
theorem wordL_nosep (l : List UInt8) : ∀ c ∈ wordL l, isSep c = false := by
  intro c hc
  unfold wordL at hc
  have := List.all_eq_true.1 (List.all_takeWhile (p := fun c => !isSep c) (l := l)) c hc
  simpa using this
theorem goods_of : ∀ (ts : List FD) (l : List UInt8), (∀ f ∈ ts, SepF f) → tabOk ts l = true → Goods ts (tabVs ts l)
  | [], _, _, _ => trivial
  | f :: r, l, hs, h => by
    rw [tabOk, Bool.and_eq_true] at h
    refine ⟨?_, goods_of r _ (fun g hg => hs g (List.mem_cons_of_mem _ hg)) h.2⟩
    have h1 := h.1
    unfold fldOk at h1
    rw [Bool.and_eq_true, Bool.and_eq_true] at h1
    have hp : prL f.sh (fldV f l) = fldW f l := pr_rd f.sh (fldW f l) h1.2.1
    refine ⟨hs f List.mem_cons_self, ?_, ?_, ?_⟩
    · rw [hp]; exact wordL_nosep _
    · rw [hp]; exact h1.2.1
    · rw [hp]; rfl
theorem tab_ext (ts : List FD) (l r : List UInt8) (hs : ∀ f ∈ ts, SepF f) (h : tabOk ts l = true) : tabOk ts (l ++ r) = true ∧ tabN ts (l ++ r) = tabN ts l ∧ tabVs ts (l ++ r) = tabVs ts l := by
  have hb := tab_back ts l h
  have hg := goods_of ts l hs h
  generalize hvs : tabVs ts l = vs at *
  generalize hd : l.drop (tabN ts l) = d at *
  obtain ⟨a1, a2, a3⟩ := tabP_fwd ts vs hg d
  obtain ⟨b1, b2, b3⟩ := tabP_fwd ts vs hg (d ++ r)
  rw [← hb] at a2
  rw [← List.append_assoc, ← hb] at b1 b2 b3
  exact ⟨b1, by rw [b2, a2], b3⟩
theorem drop_app {l r : List UInt8} {n : Nat} (h : n ≤ l.length) : (l ++ r).drop n = l.drop n ++ r := by
  rw [List.drop_append, Nat.sub_eq_zero_of_le h, List.drop_zero]
theorem rpA_ext {title tx tx' : ByteArray} {ts : List FD} {r : List UInt8} (hs : ∀ f ∈ ts, SepF f) (h : tx'.data.toList = tx.data.toList ++ r) (hf : rpForm title tx ts = true) : rpA title tx' ts = rpA title tx ts := by
  unfold rpForm at hf
  rw [Bool.and_eq_true] at hf
  unfold rpA
  rw [h, drop_app (pfx_le hf.1), (tab_ext ts _ r hs hf.2).2.1]
theorem rows_ext {tx tx' : ByteArray} {a : Nat} {r : List UInt8} (h : tx'.data.toList = tx.data.toList ++ r) (ha : a ≤ tx.size) (hs : ∀ f ∈ rowFDs 0, SepF f) : ∀ k l q, rowsAt tx a k = some (l, q) → rowsAt tx' a k = some (l, q) := by
  intro k
  induction k with
  | zero => intro l q h; exact h
  | succ k ih =>
    intro l q h'
    rw [rowsAt] at h'
    split at h'
    · cases h'
    · rename_i l' q' h1
      by_cases hz : tabOk (rowFDs 0) (tx.data.toList.drop q') = true
      · rw [if_pos hz] at h'
        have hq := (rowsAt_le ha _ _ _ h1).2.1
        obtain ⟨e1, e2, e3⟩ := tab_ext (rowFDs 0) _ r hs hz
        rw [rowsAt, ih _ _ h1]
        show (if tabOk (rowFDs 0) (tx'.data.toList.drop q') then some (l' ++ [rdRow (tx'.data.toList.drop q')], q' + tabN (rowFDs 0) (tx'.data.toList.drop q')) else none) = _
        unfold rdRow
        rw [h, drop_app (by rw [size_data]; exact hq), if_pos e1, e2, e3]
        exact h'
      · rw [if_neg hz] at h'; cases h'
theorem sep_nl (f : FD) (h : f.en = nl) : SepF f := ⟨10, [], by rw [h]; rfl, rfl⟩
theorem row_sep : ∀ f ∈ rowFDs 0, SepF f := by
  intro f hf
  unfold rowFDs at hf
  simp only [List.mem_cons, List.not_mem_nil, or_false] at hf
  rcases hf with rfl | rfl | rfl | rfl
  · exact ⟨32, [], rfl, rfl⟩
  · exact ⟨32, [], rfl, rfl⟩
  · exact ⟨32, [], rfl, rfl⟩
  · exact ⟨10, [], rfl, rfl⟩
theorem head_sep : ∀ f ∈ headFDs 0 0, SepF f := by
  intro f hf
  unfold headFDs at hf
  simp only [List.mem_cons, List.not_mem_nil, or_false] at hf
  rcases hf with rfl | rfl | rfl | rfl <;> exact sep_nl _ rfl
theorem tail_sep : ∀ f ∈ tailFDs 0, SepF f := by
  intro f hf
  unfold tailFDs at hf
  simp only [List.mem_cons, List.not_mem_nil, or_false] at hf
  rcases hf with rfl | rfl <;> exact sep_nl _ rfl
theorem meta_sep : ∀ f ∈ metaFDs 0, SepF f := by
  intro f hf
  unfold metaFDs at hf
  simp only [List.mem_cons, List.not_mem_nil, or_false] at hf
  rcases hf with rfl | rfl | rfl | rfl | rfl | rfl | rfl | rfl <;> exact sep_nl _ rfl
theorem ptr_sep : ∀ f ∈ ptrFDs 0, SepF f := by
  intro f hf
  unfold ptrFDs at hf
  simp only [List.mem_cons, List.not_mem_nil, or_false] at hf
  rcases hf with rfl | rfl | rfl | rfl <;> exact sep_nl _ rfl
theorem cls_13 {tx : ByteArray} {a : Nat} (h : clsE tx a = 0) : a + 13 = tx.size := by
  obtain ⟨h1, h2⟩ := cls_back h
  have h3 := congrArg List.length h2
  rw [List.length_drop, size_data, sealL_len] at h3
  have h4 : sumWd.size = 4 := rfl
  omega
theorem meta_parts {tx : ByteArray} (h : metaPE tx = 0) : rpForm metaTitle tx (metaFDs 0) = true ∧ clsE tx (rpA metaTitle tx (metaFDs 0)) = 0 := by
  unfold metaPE rpE at h
  split at h
  · rename_i h1
    refine ⟨h1, ?_⟩
    split at h
    · rename_i h2; exact h2
    · rename_i h2; exact absurd h h2
  · exact absurd h (by decide)
theorem ptr_parts {tx : ByteArray} (h : ptrPE tx = 0) : rpForm ptrTitle tx (ptrFDs 0) = true ∧ clsE tx (rpA ptrTitle tx (ptrFDs 0)) = 0 := by
  unfold ptrPE rpE at h
  split at h
  · rename_i h1
    refine ⟨h1, ?_⟩
    split at h
    · rename_i h2; exact h2
    · rename_i h2; exact absurd h h2
  · exact absurd h (by decide)
theorem man_parts {tx : ByteArray} (h : pmE tx = 0) : pmForm tx = true ∧ clsE tx (pmA3 tx) = 0 := by
  unfold pmE at h
  split at h
  · rename_i h1
    refine ⟨h1, ?_⟩
    split at h
    · rename_i h2; exact h2
    · rename_i h2; exact absurd h h2
  · exact absurd h (by decide)
theorem pmA3_ext {tx tx' : ByteArray} {r : List UInt8} (h : tx'.data.toList = tx.data.toList ++ r) (hf : pmForm tx = true) : pmA3 tx' = pmA3 tx := by
  unfold pmForm at hf
  simp only [Bool.and_eq_true] at hf
  obtain ⟨p1, p2, p3, p4⟩ := hf
  obtain ⟨⟨rs, q⟩, hr⟩ := Option.isSome_iff_exists.1 p3
  have hpl := pfx_le p1
  have d0 : tx'.data.toList.drop manTitle.size = tx.data.toList.drop manTitle.size ++ r := by rw [h, drop_app hpl]
  obtain ⟨e1, e2, e3⟩ := tab_ext (headFDs 0 0) _ r head_sep p2
  rw [← d0] at e1 e2 e3
  have hH : pmH tx' = pmH tx := by unfold pmH rdHead; rw [e3]
  have hN : pmN tx' = pmN tx := by unfold pmN; rw [hH]
  have hA1 : pmA1 tx' = pmA1 tx := by unfold pmA1; rw [e2]
  have n2 := tabN_le _ _ p2
  rw [List.length_drop, size_data] at n2
  rw [size_data] at hpl
  have hA : pmA1 tx ≤ tx.size := by unfold pmA1; omega
  have hr0 : rowsAt tx (pmA1 tx) (pmN tx) = some (rs, q) := hr
  have hR : pmR tx' = some (rs, q) := by unfold pmR; rw [hA1, hN]; exact rows_ext h hA row_sep _ _ _ hr0
  have hq := (rowsAt_le hA _ _ _ hr0).2.1
  have a2 : pmA2 tx = q := by unfold pmA2; rw [hr]; rfl
  have a2' : pmA2 tx' = q := by unfold pmA2; rw [hR]; rfl
  rw [a2] at p4
  obtain ⟨f1, f2, f3⟩ := tab_ext (tailFDs 0) _ r tail_sep p4
  unfold pmA3
  rw [a2, a2', h, drop_app (by rw [size_data]; exact hq), f2]
def PaperT (tx : ByteArray) : Prop := metaPE tx = 0 ∨ pmE tx = 0 ∨ ptrPE tx = 0
theorem paper_cls {tx : ByteArray} (h : PaperT tx) : ∃ a, clsE tx a = 0 := by
  rcases h with h | h | h
  · exact ⟨_, (meta_parts h).2⟩
  · exact ⟨_, (man_parts h).2⟩
  · exact ⟨_, (ptr_parts h).2⟩
theorem meta_title {tx : ByteArray} (h : metaPE tx = 0) : pfx metaTitle tx.data.toList = true := by
  have := (meta_parts h).1; unfold rpForm at this; rw [Bool.and_eq_true] at this; exact this.1
theorem ptr_title {tx : ByteArray} (h : ptrPE tx = 0) : pfx ptrTitle tx.data.toList = true := by
  have := (ptr_parts h).1; unfold rpForm at this; rw [Bool.and_eq_true] at this; exact this.1
theorem man_title {tx : ByteArray} (h : pmE tx = 0) : pfx manTitle tx.data.toList = true := by
  have := (man_parts h).1; unfold pmForm at this; rw [Bool.and_eq_true] at this; exact this.1
theorem pfx_grow {t : ByteArray} {l r : List UInt8} (h : pfx t l = true) : pfx t (l ++ r) = true := by
  unfold pfx at h ⊢
  rw [List.isPrefixOf_iff_prefix] at h ⊢
  exact h.trans (List.prefix_append l r)
theorem len_nil {s t : ByteArray} {r : List UInt8} (h : t.data.toList = s.data.toList ++ r) (hs : s.size = t.size) : r = [] := by
  have := congrArg List.length h
  rw [List.length_append, size_data, size_data] at this
  exact List.length_eq_zero_iff.1 (by omega)
/-- no paper is the beginning of another -/
theorem two_papers {s t : ByteArray} {r : List UInt8} (h : t.data.toList = s.data.toList ++ r) (hs : PaperT s) (ht : PaperT t) : r = [] := by
  rcases hs with hs | hs | hs
  · have a := pfx_grow (r := r) (meta_title hs)
    rw [← h] at a
    rcases ht with ht | ht | ht
    · have c1 := cls_13 (meta_parts hs).2
      have c2 := cls_13 (meta_parts ht).2
      rw [rpA_ext meta_sep h (meta_parts hs).1] at c2
      exact len_nil h (by omega)
    · exact absurd (title_apart a (man_title ht)) (by decide)
    · exact absurd (title_apart a (ptr_title ht)) (by decide)
  · have a := pfx_grow (r := r) (man_title hs)
    rw [← h] at a
    rcases ht with ht | ht | ht
    · exact absurd (title_apart a (meta_title ht)) (by decide)
    · have c1 := cls_13 (man_parts hs).2
      have c2 := cls_13 (man_parts ht).2
      rw [pmA3_ext h (man_parts hs).1] at c2
      exact len_nil h (by omega)
    · exact absurd (title_apart a (ptr_title ht)) (by decide)
  · have a := pfx_grow (r := r) (ptr_title hs)
    rw [← h] at a
    rcases ht with ht | ht | ht
    · exact absurd (title_apart a (meta_title ht)) (by decide)
    · exact absurd (title_apart a (man_title ht)) (by decide)
    · have c1 := cls_13 (ptr_parts hs).2
      have c2 := cls_13 (ptr_parts ht).2
      rw [rpA_ext ptr_sep h (ptr_parts hs).1] at c2
      exact len_nil h (by omega)
theorem seal_inj {a b : Nat} (ha : a < 4294967296) (hb : b < 4294967296) (h : sealL sumWd a = sealL sumWd b) : a = b := by
  unfold sealL at h
  have h1 := List.append_cancel_left (List.append_cancel_right h)
  have h2 : some (be4 a) = some (be4 b) := by rw [← unhex_hex (be4 a), ← unhex_hex (be4 b), h1]
  have h3 : be4 a = be4 b := Option.some.inj h2
  rw [← beV_be4 a ha, ← beV_be4 b hb, h3]
/-- a paper in which one byte is another is none -/
theorem spoil_not {s t : ByteArray} {i : Nat} {c : UInt8} (hset : t.data.toList = s.data.toList.set i c) (hi : i < s.size) (hne : s.data.toList[i]? ≠ some c) (hs : PaperT s) (ht : PaperT t) : False := by
  obtain ⟨a, ha⟩ := paper_cls hs
  obtain ⟨b, hb⟩ := paper_cls ht
  have c1 := cls_13 ha
  have c2 := cls_13 hb
  have hsz : t.size = s.size := by
    have := congrArg List.length hset
    rw [List.length_set, size_data, size_data] at this
    exact this
  obtain rfl : a = b := by omega
  obtain ⟨-, d1⟩ := cls_back ha
  obtain ⟨-, d2⟩ := cls_back hb
  have hil : i < s.data.toList.length := by rw [size_data]; exact hi
  by_cases hia : i < a
  · have e1 : t.data.toList.drop a = s.data.toList.drop a := by
      rw [hset, List.drop_set_of_lt hia]
    rw [d1, d2] at e1
    have e2 := seal_inj (crcN_lt _ (by decide)) (crcN_lt _ (by decide)) e1
    have e3 : t.data.toList.take a = (s.data.toList.take i) ++ c :: ((s.data.toList.drop (i + 1)).take (a - (i + 1))) := by
      rw [hset, List.set_eq_take_append_cons_drop, if_pos hil, List.take_append, List.length_take, Nat.min_eq_left (by omega), List.take_take, Nat.min_eq_right (by omega)]
      congr 1
      obtain ⟨j, hj⟩ : ∃ j, a - i = j + 1 := ⟨a - i - 1, by omega⟩
      rw [hj, List.take_succ_cons, show a - (i + 1) = j by omega]
    have e4 : s.data.toList.take a = (s.data.toList.take i) ++ (s.data.toList[i]'hil) :: ((s.data.toList.drop (i + 1)).take (a - (i + 1))) := by
      have h0 : s.data.toList = s.data.toList.take i ++ (s.data.toList[i]'hil) :: s.data.toList.drop (i + 1) := by
        rw [← List.drop_eq_getElem_cons hil, List.take_append_drop]
      have h1 : s.data.toList.take a = (s.data.toList.take i ++ (s.data.toList[i]'hil) :: s.data.toList.drop (i + 1)).take a := by rw [← h0]
      rw [h1, List.take_append, List.length_take, Nat.min_eq_left (by omega), List.take_take, Nat.min_eq_right (by omega)]
      congr 1
      obtain ⟨j, hj⟩ : ∃ j, a - i = j + 1 := ⟨a - i - 1, by omega⟩
      rw [hj, List.take_succ_cons, show a - (i + 1) = j by omega]
    rw [e3, e4] at e2
    have e5 := crc_byte _ _ _ _ e2
    exact hne (by rw [List.getElem?_eq_getElem hil, e5])
  · have e1 : t.data.toList.take a = s.data.toList.take a := by
      rw [hset, List.take_set_of_le (by omega)]
    have e2 : t.data.toList = s.data.toList := by
      rw [← List.take_append_drop a t.data.toList, ← List.take_append_drop a s.data.toList, d1, d2, e1]
    rw [e2] at hset
    have : s.data.toList[i]? = some c := by
      rw [hset, List.getElem?_set_self hil]
    exact hne this
/-- how many of the three ways take a text -/
def rdCount (tx : ByteArray) : Nat := (if metaPE tx = 0 then 1 else 0) + (if pmE tx = 0 then 1 else 0) + (if ptrPE tx = 0 then 1 else 0)
theorem rd_none {tx : ByteArray} (h : ¬ PaperT tx) : rdCount tx = 0 := by
  unfold rdCount
  rw [if_neg (fun e => h (.inl e)), if_neg (fun e => h (.inr (.inl e))), if_neg (fun e => h (.inr (.inr e)))]
theorem rd_one {tx : ByteArray} (h : PaperT tx) : rdCount tx = 1 := by
  unfold rdCount
  rcases h with h | h | h
  · rw [if_pos h, if_neg (fun e => not_meta_man h e), if_neg (fun e => not_meta_ptr h e)]
  · rw [if_neg (fun e => not_meta_man e h), if_pos h, if_neg (fun e => not_man_ptr h e)]
  · rw [if_neg (fun e => not_meta_ptr e h), if_neg (fun e => not_man_ptr e h), if_pos h]
end Go.Proofs.YtfpalfpfijcpbaaGreatDoor
namespace Go.Proofs.YtfpalfpfijcpbaaGreatDoor
open Go.RowKit Go.Shelf
set_option maxHeartbeats 2000000 in
set_option maxRecDepth 100000 in
/-- first: a pointer that is printed and read -/
theorem first_any (w : World) (hT4 : Tab4 0 w) (hP : Pow w) :
    Calls Tryz.prog 19 #[] w fun x w' => x = .returned (.bool true) ∧ Below w.heap.size w w' := by
  have i1 : I64 1 := by unfold I64; omega
  have i0 : I64 0 := by unfold I64; omega
  have C1 := hide (fun w' (hb : Below w.heap.size w w') => printPointer_any 1 0 1 1 i1 i0 i1 i1 w' (hP.below hb) (hT4.below hb hT4.lt))
  have C2 := hide (fun w' (hb : Below w.heap.size w w') => parsePointer_any (ptrS 1 0 1 1) w' (ptrS_len 1 0 1 1 i1 i0 i1 i1) (hT4.below hb hT4.lt))
  obtain ⟨f0, f1, f2, f3, f4⟩ := ptr_fwd (c := 1) (p := 0) (e := 1) (s := 1) (by decide)
  rw [f0, f1, f2, f3, f4] at C2
  have eE : ptrE 1 0 1 1 = 0 := by decide
  rw [eE] at C1
  clear f0 f1 f2 f3 f4 eE hT4 hP i1 i0
  generalize ptrS 1 0 1 1 = S at *
  go_enter Tryz.func19, Tryz.ntmps19
  go_wp2_with fail
  refine Calls.mono (C1.out w (Below.refl _ _)) ?_
  rintro x w1 ⟨rfl, b1⟩
  have B1 := hide b1
  have D2 := hide (C2.out w1 b1)
  clear b1 C1 C2
  go_wp2_with fail
  refine Calls.mono D2.out ?_
  rintro x w2 ⟨rfl, b2⟩
  have B2 := hide (B1.out.trans (b2.mono B1.out.size))
  clear b2 D2 B1
  go_wp2_with (go_at_call 12; refine Calls.mono (pnum_any _ _) ?_; rintro e w' ⟨rfl, rfl⟩)
  go_ret
  exact ⟨rfl, B2.out.alloc B2.out.size _⟩
end Go.Proofs.YtfpalfpfijcpbaaGreatDoor
