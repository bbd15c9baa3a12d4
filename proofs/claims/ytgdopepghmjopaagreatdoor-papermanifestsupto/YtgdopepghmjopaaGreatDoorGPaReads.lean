import Derived.Test.YtgdopepghmjopaaGreatDoorPaRead
import Derived.Test.YtgdopepghmjopaaGreatDoorGPaWrit
import Derived.Deep.RegionHeld3
namespace Go.Proofs.YtgdopepghmjopaaGreatDoor
open Go.RowKit Go.Shelf
def tabOk : List FD → List UInt8 → Bool
  | [], _ => true
  | f :: r, l => fldOk f l && tabOk r (l.drop (fldN f l))
def tabN : List FD → List UInt8 → Nat
  | [], _ => 0
  | f :: r, l => fldN f l + tabN r (l.drop (fldN f l))
def tabVs : List FD → List UInt8 → List Val
  | [], _ => []
  | f :: r, l => fldV f l :: tabVs r (l.drop (fldN f l))
theorem tabN_app : ∀ (xs ys : List FD) (l : List UInt8), tabN (xs ++ ys) l = tabN xs l + tabN ys (l.drop (tabN xs l))
  | [], ys, l => by simp [tabN]
  | f :: r, ys, l => by
    show fldN f l + tabN (r ++ ys) _ = _
    rw [tabN_app r ys, tabN, List.drop_drop]
    omega
theorem tabOk_app : ∀ (xs ys : List FD) (l : List UInt8), tabOk (xs ++ ys) l = (tabOk xs l && tabOk ys (l.drop (tabN xs l)))
  | [], ys, l => by simp [tabN, tabOk]
  | f :: r, ys, l => by
    show (fldOk f l && tabOk (r ++ ys) _) = _
    rw [tabOk_app r ys, tabN, tabOk, List.drop_drop, Bool.and_assoc]
theorem tabVs_app : ∀ (xs ys : List FD) (l : List UInt8), tabVs (xs ++ ys) l = tabVs xs l ++ tabVs ys (l.drop (tabN xs l))
  | [], ys, l => by simp [tabN, tabVs]
  | f :: r, ys, l => by
    show fldV f l :: tabVs (r ++ ys) _ = _
    rw [tabVs_app r ys, tabN, tabVs, List.drop_drop]
    rfl
theorem tabVs_len : ∀ (xs : List FD) (l : List UInt8), (tabVs xs l).length = xs.length
  | [], _ => rfl
  | f :: r, l => by simp [tabVs, tabVs_len r]
theorem pfx_le {wd : ByteArray} {l : List UInt8} (h : pfx wd l = true) : wd.size ≤ l.length := by
  have := (List.isPrefixOf_iff_prefix.1 h).length_le
  rwa [size_data] at this
theorem fldN_le {f : FD} {l : List UInt8} (h : fldOk f l = true) : fldN f l ≤ l.length := by
  unfold fldOk at h
  rw [Bool.and_eq_true, Bool.and_eq_true] at h
  have h1 := pfx_le h.1
  have h2 := wordL_le (l.drop f.wd.size)
  have h3 := pfx_le h.2.2
  rw [List.length_drop] at h2
  rw [List.length_drop, List.length_drop] at h3
  unfold fldN
  unfold fldW at *
  omega
theorem tabN_le : ∀ (xs : List FD) (l : List UInt8), tabOk xs l = true → tabN xs l ≤ l.length
  | [], _, _ => Nat.zero_le _
  | f :: r, l, h => by
    rw [tabOk, Bool.and_eq_true] at h
    have h1 := fldN_le h.1
    have h2 := tabN_le r _ h.2
    rw [List.length_drop] at h2
    show fldN f l + tabN r _ ≤ _
    omega
theorem take_snoc {α : Type} (ts : List α) (i : Nat) (h : i < ts.length) : ts.take (i + 1) = ts.take i ++ [ts[i]] := List.take_succ_eq_append_getElem h
theorem tabOk_one (f : FD) (l : List UInt8) : tabOk [f] l = fldOk f l := by simp [tabOk]
theorem tabN_one (f : FD) (l : List UInt8) : tabN [f] l = fldN f l := by simp [tabN]
theorem tabOk_stop {ts : List FD} {l : List UInt8} {i : Nat} (h : i < ts.length) (h2 : fldOk ts[i] (l.drop (tabN (ts.take i) l)) = false) : tabOk ts l = false := by
  rw [← List.take_append_drop (i + 1) ts, tabOk_app, take_snoc ts i h, tabOk_app, tabOk_one, h2, Bool.and_false, Bool.false_and]
structure StW (R rb : Nat) (St : List Val → World → Prop) : Prop where
  kb : ∀ vs w w', St vs w → Kb R w w' → St vs w'
  lt : ∀ vs w, St vs w → rb < w.heap.size
  ne : R ≠ rb
set_option maxHeartbeats 2000000 in
set_option maxRecDepth 100000 in
/-- reader.read, over a table in memory -/
theorem read_any (ts : List FD) (b cap R rb : Nat) (tx : ByteArray) (a : Nat) (St : List Val → World → Prop) (ok : StW R rb St) (hlen : ts.length ≤ 64) (hT : ∀ vs w, St vs w → TabAt b w ts)
    (hset : ∀ i (h : i < ts.length) vs, vs.length = i → SetsAs ts[i] rb vs St) (hen : ∀ i (h : i < ts.length), Enters Tryz.prog ts[i].sf) (hrd : ∀ i (h : i < ts.length), ReadsAs ts[i].sh)
    (w : World) (hs : St [] w) (hr : RdAt R tx a w) (ha : a ≤ tx.size) (htx : tx.size < 9223372036854775808) :
    Calls Tryz.prog 62 #[.pointer (some ⟨R, 0, none⟩), .slice (some ⟨b, 0, none⟩) ts.length cap] w fun e w' => e = .returned (.bool (tabOk ts (tx.data.toList.drop a))) ∧ (tabOk ts (tx.data.toList.drop a) = true → St (tabVs ts (tx.data.toList.drop a)) w' ∧ RdAt R tx (a + tabN ts (tx.data.toList.drop a)) w') ∧ Lost R tx St w' := by
  obtain ⟨W0, hW0⟩ : ∃ W0, W0 = w.alloc (.cells #[.pointer (some ⟨R, 0, none⟩)] 108) := ⟨_, rfl⟩
  have b0 : Below w.heap.size w W0 := by rw [hW0]; exact (Below.refl _ w).alloc (Nat.le_refl _) _
  have x0 : W0.cell? ⟨w.heap.size, 0, none⟩ = some (.pointer (some ⟨R, 0, none⟩)) := by rw [hW0]; simp
  have hR := hr.lt
  have hrb := ok.lt _ _ hs
  -- the record, and the box of the reader
  have ok2 : StOk R rb w.heap.size (fun vs w' => St vs w' ∧ w'.cell? ⟨w.heap.size, 0, none⟩ = some (.pointer (some ⟨R, 0, none⟩))) := ⟨fun vs w1 w2 h k => ⟨ok.kb _ _ _ h.1 k, by rw [k.cell (lt_of_cell? h.2) (by omega)]; exact h.2⟩, fun vs w1 h => h.2, fun vs w1 h => ok.lt _ _ h.1, ok.ne⟩
  have hset2 : ∀ i (h : i < ts.length) vs, vs.length = i → SetsAs ts[i] rb vs (fun vs w' => St vs w' ∧ w'.cell? ⟨w.heap.size, 0, none⟩ = some (.pointer (some ⟨R, 0, none⟩))) := fun i h vs hv v w1 h1 => (hset i h vs hv v w1 h1.1).mono fun e w2 ⟨e1, s1, k1⟩ => ⟨e1, ⟨s1, by rw [k1.cell (lt_of_cell? h1.2) (by omega)]; exact h1.2⟩, k1⟩
  generalize hl : tx.data.toList.drop a = l at *
  have hll : l.length = tx.size - a := by rw [← hl, List.length_drop, size_data]
  have C := hide (walk_any 86 (enters_of Tryz.func86 (by kernel_rfl) rfl) #[.pointer (some ⟨w.heap.size, 0, none⟩)] b cap ts W0
    (fun i w' => tabOk (ts.take i) l = true ∧ (St (tabVs (ts.take i) l) w' ∧ w'.cell? ⟨w.heap.size, 0, none⟩ = some (.pointer (some ⟨R, 0, none⟩))) ∧ RdAt R tx (a + tabN (ts.take i) l) w')
    (fun i w' => fldOk (ts[i]?.getD ⟨⟨#[]⟩, 0, 0, 0, 0, 0, #[], ⟨#[]⟩⟩) (l.drop (tabN (ts.take i) l)) = false ∧ Lost R tx St w') (by omega)
    ⟨rfl, ⟨ok.kb _ _ _ hs (Kb.of b0), x0⟩, hr.below b0⟩
    (fun i w' _ h => hT _ _ h.2.1.1)
    (fun i w' o _ h => by
      have bo : Below w'.heap.size w' (w'.alloc o) := (Below.refl _ _).alloc (Nat.le_refl _) _
      exact ⟨h.1, ok2.kb _ _ _ h.2.1 (Kb.of bo), h.2.2.below bo⟩)
    (fun i h w' hI => by
      obtain ⟨i1, i2, i3⟩ := hI
      have hn := tabN_le _ _ i1
      have e1 : tx.data.toList.drop (a + tabN (ts.take i) l) = l.drop (tabN (ts.take i) l) := by rw [← hl, List.drop_drop]
      have hvl : (tabVs (ts.take i) l).length = i := by rw [tabVs_len, List.length_take]; omega
      cases hp : pfx ts[i].wd (l.drop (tabN (ts.take i) l)) with
      | false =>
        refine (read1_no ts[i] R rb w.heap.size tx _ _ _ ok2 w' i2 i3 (by omega) htx (by rw [e1]; exact hp)).mono fun e w'' ⟨e2, vs2, a2, s2, r2⟩ => .inr ⟨e2, ?_, vs2, a2, s2.1, r2⟩
        rw [List.getElem?_eq_getElem h]
        show fldOk ts[i] _ = false
        unfold fldOk; rw [hp]; rfl
      | true =>
        refine (read1_yes ts[i] (hen i h) (hrd i h) R rb w.heap.size tx _ _ _ ok2 (hset2 i h _ hvl) w' i2 i3 (by omega) htx (by rw [e1]; exact hp)).mono fun e w'' ⟨e2, o2, l2⟩ => ?_
        rw [e1] at e2 o2
        cases hf : fldOk ts[i] (l.drop (tabN (ts.take i) l)) with
        | true =>
          obtain ⟨o3, o4⟩ := o2 hf
          refine .inl ⟨by rw [e2, hf], ?_, ?_, ?_⟩
          · rw [take_snoc ts i h, tabOk_app, i1, tabOk_one, hf]; rfl
          · rw [take_snoc ts i h, tabVs_app]; exact o3
          · rw [take_snoc ts i h, tabN_app, tabN_one, ← Nat.add_assoc]; exact o4
        | false =>
          obtain ⟨vs2, a2, s2, r2⟩ := l2
          refine .inr ⟨by rw [e2, hf], ?_, vs2, a2, s2.1, r2⟩
          rw [List.getElem?_eq_getElem h]; exact hf))
  have D := hide (C.out.mono (R' := fun e w' => e = .returned (.bool (tabOk ts l)) ∧ (tabOk ts l = true → St (tabVs ts l) w' ∧ RdAt R tx (a + tabN ts l) w') ∧ Lost R tx St w') fun e w' h => by
    rcases h with ⟨rfl, h1, h2, h3⟩ | ⟨rfl, i, hi, h1, h2⟩
    · rw [List.take_of_length_le (Nat.le_refl _)] at h1 h2 h3
      exact ⟨by rw [h1], fun _ => ⟨h2.1, h3⟩, Lost.mk h2.1 h3⟩
    · rw [List.getElem?_eq_getElem hi] at h1
      have := tabOk_stop hi h1
      refine ⟨by rw [this], ?_, h2⟩
      intro h
      rw [this] at h
      cases h)
  clear C hset hset2 hen hrd hT ok2 x0 b0 hs hr ok
  generalize tabOk ts l = TO at *
  have hmf : ∀ (fn : Fn) (first cap : Array Value) (w : World), (Instr.makeFunc fn first cap).run Tryz.prog w = .ok (.func fn first cap) w := fun _ _ _ _ => rfl
  go_enter Tryz.func62, Tryz.ntmps62
  go_wp2_with fail
  rw [← hW0]
  clear hW0
  refine Calls.mono D.out ?_
  rintro e w1 ⟨rfl, h1, h2⟩
  have H1 := hide h1
  have H2 := hide h2
  clear h1 h2 D
  go_wp2
  go_ret
  exact ⟨rfl, H1.out, H2.out⟩
end Go.Proofs.YtgdopepghmjopaaGreatDoor
namespace Go.Proofs.YtgdopepghmjopaaGreatDoor
open Go.RowKit Go.Shelf
/-- the world behind a setter -/
def setW (w : World) (rb off : Nat) (x : Value) (n : Int) (t : ByteArray) : World := (w.setCell ⟨rb, off, none⟩ x).alloc (.cells #[.int .i64 n, .string t] 76)
theorem setW_kb (w : World) (rb off : Nat) (x : Value) (n : Int) (t : ByteArray) : Kb rb w (setW w rb off x n t) := (Kb.set rb off w x).trans (Kb.of ((Below.refl _ _).alloc (Nat.le_refl _) _))
theorem setW_same {w : World} {rb off : Nat} {x y : Value} {n : Int} {t : ByteArray} (h : w.cell? ⟨rb, off, none⟩ = some y) : (setW w rb off x n t).cell? ⟨rb, off, none⟩ = some x := by
  have hl := lt_of_cell? h
  unfold setW
  rw [((Below.refl _ (w.setCell ⟨rb, off, none⟩ x)).alloc (Nat.le_refl _) _).cell (by simpa using hl)]
  exact World.cell?_setCell_same w _ _ h
theorem setW_other {w : World} {rb off b o : Nat} {x y : Value} {n : Int} {t : ByteArray} (h : w.cell? ⟨b, o, none⟩ = some y) (hn : b ≠ rb ∨ o ≠ off) : (setW w rb off x n t).cell? ⟨b, o, none⟩ = some y := by
  have hl := lt_of_cell? h
  unfold setW
  rw [((Below.refl _ (w.setCell ⟨rb, off, none⟩ x)).alloc (Nat.le_refl _) _).cell (by simpa using hl)]
  exact (World.cell?_setCell_other w _ _ _ (by rcases hn with q | q <;> simp <;> omega)).trans h
theorem setW_frozen {w : World} {rb off b o : Nat} {x : Value} {n : Int} {t : ByteArray} (hl : b < w.heap.size) : (setW w rb off x n t).frozen? ⟨b, o, none⟩ = w.frozen? ⟨b, o, none⟩ := by
  unfold setW
  rw [((Below.refl _ (w.setCell ⟨rb, off, none⟩ x)).alloc (Nat.le_refl _) _).frozen (by simpa using hl), World.frozen?_setCell]
theorem TabAt.kb {b R : Nat} {w w' : World} {ts : List FD} (h : TabAt b w ts) (hl : b < w.heap.size) (hn : b ≠ R) (hk : Kb R w w') : TabAt b w' ts := fun i hi j v hv => by
  rw [hk.cell hl hn]; exact h i hi j v hv
/-- the sum's own state -/
def sumSt (vs : List Val) : Int := match vs with | [] => 0 | v :: _ => v.1
def SumSt (w0 : World) (R sb bx tb : Nat) (wd : ByteArray) (vs : List Val) (w : World) : Prop := Kb R w0 w ∧ (TabAt tb w [sumFD wd bx] ∧ tb < w.heap.size) ∧ w.cell? ⟨bx, 0, none⟩ = some (.pointer (some ⟨sb, 0, none⟩)) ∧ w.cell? ⟨sb, 0, none⟩ = some (.int .i64 (sumSt vs)) ∧ w.frozen? ⟨sb, 0, none⟩ = false
theorem SumSt.ok {w0 : World} {R sb bx tb : Nat} {wd : ByteArray} (h1 : R ≠ sb) (h2 : bx ≠ R) (h3 : tb ≠ R) : StW R sb (SumSt w0 R sb bx tb wd) :=
  ⟨fun vs w w' h k => ⟨h.1.trans k, ⟨h.2.1.1.kb h.2.1.2 h3 k, Nat.lt_of_lt_of_le h.2.1.2 k.size⟩, by rw [k.cell (lt_of_cell? h.2.2.1) h2]; exact h.2.2.1, by rw [k.cell (lt_of_cell? h.2.2.2.1) h1.symm]; exact h.2.2.2.1, by rw [k.frozen (lt_of_cell? h.2.2.2.1) h1.symm]; exact h.2.2.2.2⟩, fun vs w h => lt_of_cell? h.2.2.2.1, h1⟩
theorem SumSt.sets {w0 : World} {R sb bx tb : Nat} {wd : ByteArray} (h4 : w0.heap.size ≤ sb) (h5 : bx ≠ sb) (h6 : tb ≠ sb) : ∀ i (h : i < [sumFD wd bx].length) vs, vs.length = i → SetsAs [sumFD wd bx][i] sb vs (SumSt w0 R sb bx tb wd) := by
  intro i hi vs hv v w hs
  obtain rfl : i = 0 := by simpa using hi
  obtain rfl : vs = [] := List.length_eq_zero_iff.1 hv
  obtain ⟨s1, s2, s3, s4, s5⟩ := hs
  refine (set_sumTable_0 bx sb 0 v.1 v.2 w (lt_of_cell? s3) (lt_of_cell? s4) s3 s4 s5).mono fun e w' ⟨e1, e2⟩ => ⟨e1, ?_, ?_⟩
  · have e3 : w' = setW w sb 0 (.int .i64 v.1) v.1 v.2 := e2
    subst e3
    refine ⟨?_, ⟨s2.1.kb s2.2 h6 (setW_kb _ _ _ _ _ _), Nat.lt_of_lt_of_le s2.2 (setW_kb _ _ _ _ _ _).size⟩, setW_other s3 (.inl h5), setW_same s4, by rw [setW_frozen (lt_of_cell? s4)]; exact s5⟩
    exact (s1.late _ _ _ h4).trans (Kb.of ((Below.refl _ _).alloc (Nat.le_refl _) _))
  · rw [e2]; exact setW_kb _ _ _ _ _ _
theorem Tab4.kb {g R : Nat} {w w' : World} (h : Tab4 g w) (hk : Kb R w w') (hn : g ≠ R) : Tab4 g w' := fun j hj => by rw [hk.cell h.lt hn]; exact h j hj
theorem Tab4.ne {g R : Nat} {w : World} {tx : ByteArray} {a : Nat} (h : Tab4 g w) (hr : RdAt R tx a w) : g ≠ R := by
  intro e
  have q1 := h 0 (by omega)
  have q2 := hr.1
  rw [e] at q1
  rw [q1] at q2
  cases q2
def headS (tx : ByteArray) (a : Nat) : ByteArray := tx.extract 0 a
theorem headS_data (tx : ByteArray) (a : Nat) : (headS tx a).data.toList = tx.data.toList.take a := by unfold headS; rw [Lib.extract_data]; simp
/-- is there a sum; does it fit -/
def unsOk (wd tx : ByteArray) (a : Nat) : Bool := fldOk (sumFD wd 0) (tx.data.toList.drop a)
def unsFit (wd tx : ByteArray) (a : Nat) : Bool := unsOk wd tx a && decide ((fldV (sumFD wd 0) (tx.data.toList.drop a)).1 = (crcN 0 (tx.data.toList.take a) : Int))
def unsN (wd tx : ByteArray) (a : Nat) : Nat := fldN (sumFD wd 0) (tx.data.toList.drop a)
theorem beq_dec (a b : Int) : (a == b) = decide (a = b) := by rw [Bool.eq_iff_iff]; simp
set_option maxHeartbeats 4000000 in
set_option maxRecDepth 100000 in
set_option linter.unusedSimpArgs false in
theorem unseal_any (R : Nat) (tx wd : ByteArray) (a : Nat) (w : World) (hr : RdAt R tx a w) (ha : a ≤ tx.size) (htx : tx.size < 9223372036854775808) (hT4 : Tab4 1 w) :
    Calls Tryz.prog 89 #[.pointer (some ⟨R, 0, none⟩), .string wd] w fun e w' => e = .returned (.tuple #[.bool (unsOk wd tx a), .bool (unsFit wd tx a)]) ∧ (unsOk wd tx a = true → RdAt R tx (a + unsN wd tx a) w') ∧ (∃ a', RdAt R tx a' w') ∧ Kb R w w' := by
  have HR := hide hr
  have hRl := hr.lt
  have hGne := hT4.ne hr
  have HT := hide hT4
  have HB := hide (headS_data tx a)
  have hbs : (headS tx a).size ≤ tx.size := by unfold headS; rw [ByteArray.size_extract]; omega
  obtain ⟨h1, h2, h3⟩ := hr
  clear hT4
  have hXe : headS tx a = tx.extract 0 a := rfl
  obtain ⟨UO, hUO⟩ : ∃ UO, UO = unsOk wd tx a := ⟨_, rfl⟩
  obtain ⟨UF', hUF⟩ : ∃ UF, UF = unsFit wd tx a := ⟨_, rfl⟩
  obtain ⟨UN, hUN⟩ : ∃ UN, UN = unsN wd tx a := ⟨_, rfl⟩
  rw [← hUO, ← hUF, ← hUN]
  have HUO := hide hUO
  have HUF := hide hUF
  have HUN := hide hUN
  clear hUO hUF hUN
  go_enter Tryz.func89, Tryz.ntmps89
  go_wp2_with fail
  go_quiet (fail)
  have Q0 := hide (kb_drewN R w nq)
  have R0 := hide (HR.out.drewN nq)
  have T0 := hide (HT.out.kb Q0.out hGne)
  generalize w.drewN nq = wq at *
  rw [← hXe]
  generalize headS tx a = X at *
  clear h1 h2 h3 hXe HT HR
  obtain ⟨W1, hW1⟩ : ∃ W1, W1 = wq.alloc (.cells #[.int .i64 0] 3) := ⟨_, rfl⟩
  have b1 : Below wq.heap.size wq W1 := by rw [hW1]; exact (Below.refl _ _).alloc (Nat.le_refl _) _
  have s1 : W1.heap.size = wq.heap.size + 1 := by rw [hW1]; simp
  have T := hide (sumTable_any wq.heap.size wd W1)
  have hs2 := sumW_size wd wq.heap.size W1
  have b2 := sumW_below wd wq.heap.size W1
  have bb : Below wq.heap.size wq (sumW wd wq.heap.size W1) := b1.trans (b2.mono b1.size)
  have hRq : R < wq.heap.size := R0.out.lt
  have SS : SumSt wq R wq.heap.size W1.heap.size (W1.heap.size + 1) wd [] (sumW wd wq.heap.size W1) := by
    refine ⟨Kb.of bb, ⟨sumW_tab wd wq.heap.size W1, by omega⟩, sumW_box wd wq.heap.size W1, ?_, ?_⟩
    · rw [b2.cell (by show wq.heap.size < _; omega), hW1]; simp [sumSt]
    · rw [b2.frozen (by show wq.heap.size < _; omega), hW1]; simp
  have RD := hide (read_any [sumFD wd W1.heap.size] (W1.heap.size + 1) 1 R wq.heap.size tx a (SumSt wq R wq.heap.size W1.heap.size (W1.heap.size + 1) wd) (SumSt.ok (by omega) (by omega) (by omega)) (by simp) (fun vs w' h => h.2.1.1) (SumSt.sets (Nat.le_refl _) (by omega) (by omega)) (fun i hi => by
      obtain rfl : i = 0 := by simpa using hi
      exact enters_of Tryz.func79 (by kernel_rfl) rfl) (fun i hi => by
      obtain rfl : i = 0 := by simpa using hi
      exact reads_sum) (sumW wd wq.heap.size W1) SS (R0.out.below bb) ha htx)
  have E1 : Hid (tabOk [sumFD wd W1.heap.size] (tx.data.toList.drop a) = unsOk wd tx a ∧ tabN [sumFD wd W1.heap.size] (tx.data.toList.drop a) = unsN wd tx a ∧ tabVs [sumFD wd W1.heap.size] (tx.data.toList.drop a) = [fldV (sumFD wd 0) (tx.data.toList.drop a)]) := ⟨by rw [tabOk_one]; rfl, by rw [tabN_one]; rfl, rfl⟩
  rw [E1.out.1, E1.out.2.1, E1.out.2.2, ← HUO.out, ← HUN.out] at RD
  have UF : Hid (UF' = (UO && decide ((fldV (sumFD wd 0) (tx.data.toList.drop a)).1 = (crcN 0 X.data.toList : Int)))) := by
    show _ = _; rw [HUF.out, HUO.out]; unfold unsFit; rw [HB.out]
  have K0 := hide Q0.out
  clear SS bb b2 b1 hs2 E1 s1 HB
  clear HUO HUF HUN
  generalize hVV : (fldV (sumFD wd 0) (tx.data.toList.drop a)) = VV at *
  clear hVV
  go_wp2_with fail
  rw [← hW1]
  clear hW1
  refine Calls.mono T.out ?_
  rintro e w2 ⟨rfl, rfl⟩
  go_wp2_with fail
  refine Calls.mono RD.out ?_
  rintro e w3 ⟨rfl, d1, d2⟩
  obtain ⟨vsL, aL, sL, rL⟩ := d2
  have R3 := hide rL
  have K3 := hide (K0.out.trans sL.1)
  have T3 := hide (T0.out.kb sL.1 hGne)
  cases hU : UO with
  | false =>
    have e2 : Hid (UF' = false) := by show _ = _; rw [UF.out, hU]; rfl
    clear d1 sL rL RD T T0
    go_wp2_with fail
    go_ret2
    refine ⟨?_, ?_, ⟨_, R3.out⟩, K3.out⟩
    · rw [e2.out, hU]; rfl
    · intro h; rw [hU] at h; cases h
  | true =>
    obtain ⟨s4, r4⟩ := d1 hU
    have c4 : w3.cell? ⟨wq.heap.size, 0, none⟩ = some (.int .i64 VV.1) := s4.2.2.2.1
    have R4 := hide r4
    have E2 : Hid (UF' = (VV.1 == (crcN 0 X.data.toList : Int))) := by
      show _ = _; rw [UF.out, hU, beq_dec]; rfl
    have CR := hide (fun (w' : World) (b' : Nat) (hc : w'.cell? ⟨b', 0, none⟩ = some (.string X)) (hg : Tab4 1 w') => crc_any (some ⟨b', 0, none⟩) b' 0 1 [X] w' (fun _ => rfl) (by
      intro j x hj
      obtain rfl : j = 0 := by have := (List.getElem?_eq_some_iff.1 hj).1; simpa using this
      simp at hj; subst hj; exact hc) (by simp) (by intro x hx; simp at hx; subst hx; omega) hg)
    rw [cat_one] at CR
    generalize crcN 0 X.data.toList = CC at *
    clear d1 sL rL RD T T0 s4 r4
    go_wp2_with fail
    have KS : Hid (∀ w', Below w3.heap.size w3 w' → w'.cell? ⟨wq.heap.size, 0, none⟩ = some (.int .i64 VV.1)) := fun w' hb => by rw [hb.cell (by exact lt_of_cell? c4)]; exact c4
    refine wp_region_held_drew (S := fun w' => w'.cell? ⟨wq.heap.size, 0, none⟩ = some (.int .i64 VV.1)) (by kernel_rfl) (KS.out _ (Below.refl _ w3).drew) (fun hHeld => ?_)
    have b4 : Below w3.heap.size w3 (w3.drew.alloc (.cells #[.string X] 9)) := (Below.refl _ w3).drew.alloc (Nat.le_refl _) _
    have CR4 := hide (CR.out (w3.drew.alloc (.cells #[.string X] 9)) w3.heap.size (by rw [World.cell?_alloc_at _ _ _ _ (by rfl)]; rfl) (T3.out.below b4 T3.out.lt))
    have B4 := hide b4
    clear b4 CR
    refine wpAnyH_take (i := 0) (v := (.int .i64 VV.1)) rfl (by kernel_rfl) (by kernel_rfl) (by kernel_rfl) (fun _ _ _ h => h) (Or.inl ⟨by rfl, ?_⟩) (by assumption) ?_
    · intro w' hSw
      (try dsimp only at hSw)
      go_simp <;> first | exact i64_in (by omega) (by omega) | exact u32_in (by omega) (by omega) | exact u32_add _ _ | (rw [Int.tmod_eq_emod_of_nonneg (by omega)]; omega) | (rw [Int.tdiv_eq_ediv_of_nonneg (by omega)]; omega) | omega
    (try simp only [Act.put, List.setIfInBounds_toArray, List.set_cons_zero, List.set_cons_succ])
    refine wpAnyH_take (i := 1) (v := (.string X)) rfl (by kernel_rfl) (by kernel_rfl) (by kernel_rfl) (fun _ _ _ h => h) (Or.inl ⟨by rfl, ?_⟩) (by assumption) ?_
    · intro w' hSw
      (try dsimp only at hSw)
      go_simp <;> first | exact i64_in (by omega) (by omega) | exact u32_in (by omega) (by omega) | exact u32_add _ _ | (rw [Int.tmod_eq_emod_of_nonneg (by omega)]; omega) | (rw [Int.tdiv_eq_ediv_of_nonneg (by omega)]; omega) | omega
    (try simp only [Act.put, List.setIfInBounds_toArray, List.set_cons_zero, List.set_cons_succ])
    refine wpAnyH_ready (rs := [2]) (by kernel_rfl) (by simp) ?_
    refine AllReadyH.cons rfl (fun K hK => ?_) AllReadyH.nil
    go_simp
    refine hK.out _ _ (KS.out _ B4.out) (fun hHeld => ?_)
    clear hK
    (try simp only [Act.put, List.setIfInBounds_toArray, List.set_cons_zero, List.set_cons_succ])
    refine wpAnyH_ready (rs := [3]) (by kernel_rfl) (by simp) ?_
    refine AllReadyH.cons rfl (fun K hK => ?_) AllReadyH.nil
    go_simp
    refine Calls.mono CR4.out ?_
    rintro e w5 ⟨rfl, rfl⟩
    refine hK.out _ _ (KS.out _ B4.out) (fun hHeld => ?_)
    clear hK
    (try simp only [Act.put, List.setIfInBounds_toArray, List.set_cons_zero, List.set_cons_succ])
    refine wpAnyH_take (i := 4) (v := (.bool (VV.1 == (CC : Int)))) rfl (by kernel_rfl) (by kernel_rfl) (by kernel_rfl) (fun _ _ _ h => h) (Or.inl ⟨by rfl, ?_⟩) (by assumption) ?_
    · intro w' hSw
      (try dsimp only at hSw)
      go_simp <;> first | exact i64_in (by omega) (by omega) | exact u32_in (by omega) (by omega) | exact u32_add _ _ | (rw [Int.tmod_eq_emod_of_nonneg (by omega)]; omega) | (rw [Int.tdiv_eq_ediv_of_nonneg (by omega)]; omega) | omega
    (try simp only [Act.put, List.setIfInBounds_toArray, List.set_cons_zero, List.set_cons_succ])
    refine wpAnyH_take (i := 5) (v := (.bool true)) rfl (by kernel_rfl) (by kernel_rfl) (by kernel_rfl) (fun _ _ _ h => h) (Or.inl ⟨by rfl, ?_⟩) (by assumption) ?_
    · intro w' hSw
      (try dsimp only at hSw)
      go_simp <;> first | exact i64_in (by omega) (by omega) | exact u32_in (by omega) (by omega) | exact u32_add _ _ | (rw [Int.tmod_eq_emod_of_nonneg (by omega)]; omega) | (rw [Int.tdiv_eq_ediv_of_nonneg (by omega)]; omega) | omega
    (try simp only [Act.put, List.setIfInBounds_toArray, List.set_cons_zero, List.set_cons_succ])
    refine wpAnyH_ready (rs := [6]) (by kernel_rfl) (by simp) ?_
    refine AllReadyH.cons rfl (fun K hK => ?_) AllReadyH.nil
    go_simp
    refine hK.out _ _ (KS.out _ B4.out) (fun hHeld => ?_)
    clear hK
    (try simp only [Act.put, List.setIfInBounds_toArray, List.set_cons_zero, List.set_cons_succ])
    refine wpAnyH_done (by kernel_rfl) ?_ _
    go_wp2_with fail
    go_ret2
    refine ⟨?_, ?_, ⟨_, R4.out.below B4.out⟩, K3.out.trans (Kb.of B4.out)⟩
    · rw [hU, E2.out]; rfl
    · intro h; exact R4.out.below B4.out
/-- what close answers -/
def clsE (tx : ByteArray) (a : Nat) : Int := if unsOk sumWd tx a && decide (a + unsN sumWd tx a = tx.size) then (if unsFit sumWd tx a then 0 else 41) else 40
set_option maxHeartbeats 4000000 in
set_option maxRecDepth 100000 in
theorem close_any (R : Nat) (tx : ByteArray) (a : Nat) (w : World) (hr : RdAt R tx a w) (ha : a ≤ tx.size) (htx : tx.size < 9223372036854775808) (hT4 : Tab4 1 w) :
    Calls Tryz.prog 64 #[.pointer (some ⟨R, 0, none⟩)] w fun e w' => e = .returned (.int .i64 (clsE tx a)) ∧ Kb R w w' := by
  have C := hide (unseal_any R tx sumWd a w hr ha htx hT4)
  obtain ⟨CE, hCE⟩ : ∃ CE, CE = clsE tx a := ⟨_, rfl⟩
  rw [← hCE]
  unfold clsE at hCE
  have HL : Hid (unsOk sumWd tx a = true → a + unsN sumWd tx a ≤ tx.size) := fun h => by
    have := fldN_le h
    rw [List.length_drop, size_data] at this
    show a + fldN (sumFD sumWd 0) _ ≤ _
    omega
  have HCE := hide hCE
  clear hCE hr hT4
  generalize unsOk sumWd tx a = UO at *
  generalize unsFit sumWd tx a = UF at *
  generalize unsN sumWd tx a = UN at *
  unfold sumWd at C
  cases hU : UO with
  | false =>
    have e1 : Hid (CE = 40) := by show _ = _; rw [HCE.out, hU]; rfl
    rw [hU] at C
    go_enter Tryz.func64, Tryz.ntmps64
    go_wp2_with fail
    refine Calls.mono C.out ?_
    rintro e w1 ⟨rfl, d1, d2, k1⟩
    go_wp2_with fail
    go_ret
    exact ⟨congrArg (fun z => Ending.returned (.int .i64 z)) e1.out.symm, k1⟩
  | true =>
    have hn := HL.out hU
    rw [hU] at C
    by_cases hz : a + UN = tx.size
    · have hre : Hid ((restS tx (a + UN)) = ⟨#[]⟩) := by
        show _ = _
        rw [← strOf_toList (restS tx (a + UN)), restS_data, List.drop_of_length_le (by rw [size_data]; omega)]; rfl
      cases hF : UF with
      | true =>
        have e1 : Hid (CE = 0) := by show _ = _; rw [HCE.out, hU, hF, decide_eq_true hz]; rfl
        rw [hF] at C
        go_enter Tryz.func64, Tryz.ntmps64
        go_wp2_with fail
        refine Calls.mono C.out ?_
        rintro e w1 ⟨rfl, d1, d2, k1⟩
        have RS := hide (rest_any R tx (a + UN) w1 (d1 trivial) hn)
        rw [hre.out] at RS
        go_wp2_with fail
        refine Calls.mono RS.out ?_
        rintro e w2 ⟨rfl, n2, rfl⟩
        go_wp2_with fail
        go_ret
        exact ⟨congrArg (fun z => Ending.returned (.int .i64 z)) e1.out.symm, k1.trans (kb_drewN R _ n2)⟩
      | false =>
        have e1 : Hid (CE = 41) := by show _ = _; rw [HCE.out, hU, hF, decide_eq_true hz]; rfl
        rw [hF] at C
        go_enter Tryz.func64, Tryz.ntmps64
        go_wp2_with fail
        refine Calls.mono C.out ?_
        rintro e w1 ⟨rfl, d1, d2, k1⟩
        have RS := hide (rest_any R tx (a + UN) w1 (d1 trivial) hn)
        rw [hre.out] at RS
        go_wp2_with fail
        refine Calls.mono RS.out ?_
        rintro e w2 ⟨rfl, n2, rfl⟩
        go_wp2_with fail
        go_ret
        exact ⟨congrArg (fun z => Ending.returned (.int .i64 z)) e1.out.symm, k1.trans (kb_drewN R _ n2)⟩
    · have e1 : Hid (CE = 40) := by show _ = _; rw [HCE.out, hU, decide_eq_false hz]; rfl
      have hne : (restS tx (a + UN)).toList.isEmpty = false := by
        rw [toList_data, restS_data, List.isEmpty_eq_false_iff]
        intro h
        have := congrArg List.length h
        rw [List.length_drop, size_data] at this
        simp at this
        omega
      go_enter Tryz.func64, Tryz.ntmps64
      go_wp2_with fail
      refine Calls.mono C.out ?_
      rintro e w1 ⟨rfl, d1, d2, k1⟩
      have RS := hide (rest_any R tx (a + UN) w1 (d1 trivial) hn)
      go_wp2_with fail
      refine Calls.mono RS.out ?_
      rintro e w2 ⟨rfl, n2, rfl⟩
      go_wp2_with fail
      go_ret
      exact ⟨congrArg (fun z => Ending.returned (.int .i64 z)) e1.out.symm, k1.trans (kb_drewN R _ n2)⟩
end Go.Proofs.YtgdopepghmjopaaGreatDoor
namespace Go.Proofs.YtgdopepghmjopaaGreatDoor
open Go.RowKit Go.Shelf
/-- the place behind the rows -/
def rpA (title tx : ByteArray) (ts : List FD) : Nat := title.size + tabN ts (tx.data.toList.drop title.size)
def rpForm (title tx : ByteArray) (ts : List FD) : Bool := pfx title tx.data.toList && tabOk ts (tx.data.toList.drop title.size)
def rpE (title tx : ByteArray) (ts : List FD) (ok : Bool) : Int := if rpForm title tx ts then (if clsE tx (rpA title tx ts) = 0 then (if ok then 0 else 42) else clsE tx (rpA title tx ts)) else 40
def rpVs (title tx : ByteArray) (ts : List FD) : List Val := tabVs ts (tx.data.toList.drop title.size)
theorem ret_i64 {a b : Int} (h : a = b) : Ending.returned (.int .i64 b) = .returned (.int .i64 a) := by rw [h]
end Go.Proofs.YtgdopepghmjopaaGreatDoor
namespace Go.Proofs.YtgdopepghmjopaaGreatDoor
open Go.RowKit Go.Shelf
def FD.sig (f : FD) : ByteArray × Int × ByteArray := (f.wd, f.sh, f.en)
theorem fld_sig {f g : FD} (h : f.sig = g.sig) (l : List UInt8) : fldOk f l = fldOk g l ∧ fldN f l = fldN g l ∧ fldV f l = fldV g l := by
  unfold FD.sig at h
  simp only [Prod.mk.injEq] at h
  obtain ⟨h1, h2, h3⟩ := h
  have hw : fldW f l = fldW g l := by unfold fldW; rw [h1]
  refine ⟨?_, ?_, ?_⟩
  · unfold fldOk; rw [hw, h1, h2, h3]
  · unfold fldN; rw [hw, h1, h3]
  · unfold fldV; rw [hw, h2]
theorem tab_sig : ∀ (xs ys : List FD) (l : List UInt8), xs.map FD.sig = ys.map FD.sig → tabOk xs l = tabOk ys l ∧ tabN xs l = tabN ys l ∧ tabVs xs l = tabVs ys l
  | [], [], _, _ => ⟨rfl, rfl, rfl⟩
  | [], _ :: _, _, h => by simp at h
  | _ :: _, [], _, h => by simp at h
  | f :: r, g :: s, l, h => by
    simp only [List.map_cons, List.cons.injEq] at h
    obtain ⟨a1, a2, a3⟩ := fld_sig h.1 l
    obtain ⟨b1, b2, b3⟩ := tab_sig r s (l.drop (fldN g l)) h.2
    refine ⟨?_, ?_, ?_⟩
    · show (fldOk f l && tabOk r (l.drop (fldN f l))) = (fldOk g l && tabOk s (l.drop (fldN g l)))
      rw [a1, a2, b1]
    · show fldN f l + tabN r (l.drop (fldN f l)) = fldN g l + tabN s (l.drop (fldN g l))
      rw [a2, b2]
    · show fldV f l :: tabVs r (l.drop (fldN f l)) = fldV g l :: tabVs s (l.drop (fldN g l))
      rw [a3, a2, b3]
theorem rp_sig {xs ys : List FD} (title tx : ByteArray) (ok : Bool) (h : xs.map FD.sig = ys.map FD.sig) : rpE title tx xs ok = rpE title tx ys ok ∧ rpVs title tx xs = rpVs title tx ys := by
  obtain ⟨h1, h2, h3⟩ := tab_sig xs ys (tx.data.toList.drop title.size) h
  refine ⟨?_, h3⟩
  unfold rpE rpForm rpA
  rw [h1, h2]
/-- the i-th number of what was read -/
def vN (vs : List Val) (i : Nat) : Int := (vs[i]?.map (·.1)).getD 0
theorem vN_app (vs : List Val) (v : Val) (i : Nat) : vN (vs ++ [v]) i = if i = vs.length then v.1 else vN vs i := by
  unfold vN
  rcases Nat.lt_trichotomy i vs.length with h | h | h
  · rw [List.getElem?_append_left h, if_neg (by omega)]
  · rw [List.getElem?_append_right (by omega), if_pos h, h]; simp
  · rw [List.getElem?_eq_none (by simp; omega), if_neg (by omega), List.getElem?_eq_none (by omega)]
theorem PtrAt.lt {w : World} {rb : Nat} {c p e s : Int} (h : PtrAt w rb c p e s) : rb < w.heap.size := lt_of_cell? h.1
theorem PtrAt.kb {w w' : World} {R rb : Nat} {c p e s : Int} (h : PtrAt w rb c p e s) (hk : Kb R w w') (hn : rb ≠ R) : PtrAt w' rb c p e s := by
  have hl := h.lt
  obtain ⟨h0, h1, h2, h3⟩ := h
  exact ⟨by rw [hk.cell hl hn]; exact h0, by rw [hk.cell hl hn]; exact h1, by rw [hk.cell hl hn]; exact h2, by rw [hk.cell hl hn]; exact h3⟩
end Go.Proofs.YtgdopepghmjopaaGreatDoor
namespace Go.Proofs.YtgdopepghmjopaaGreatDoor
open Go.RowKit Go.Shelf
theorem NoteAt.lt {w : World} {rb : Nat} {c p e s : Int} (h : NoteAt w rb c p e s) : rb < w.heap.size := lt_of_cell? h.1
theorem NoteAt.kb {w w' : World} {R rb : Nat} {c p e s : Int} (h : NoteAt w rb c p e s) (hk : Kb R w w') (hn : rb ≠ R) : NoteAt w' rb c p e s := by
  have hl := h.lt
  obtain ⟨h0, h1, h2, h3⟩ := h
  exact ⟨by rw [hk.cell hl hn]; exact h0, by rw [hk.cell hl hn]; exact h1, by rw [hk.cell hl hn]; exact h2, by rw [hk.cell hl hn]; exact h3⟩
end Go.Proofs.YtgdopepghmjopaaGreatDoor
