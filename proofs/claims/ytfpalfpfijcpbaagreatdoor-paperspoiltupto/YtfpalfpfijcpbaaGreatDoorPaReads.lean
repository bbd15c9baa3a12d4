import Derived.Test.YtfpalfpfijcpbaaGreatDoorPaRead
namespace Go.Proofs.YtfpalfpfijcpbaaGreatDoor
open Go.RowKit Go.Shelf
def tabOk : List FD → List UInt8 → Bool
  | [], _ => true
  | f :: r, l => fldOk f l && tabOk r (l.drop (fldN f l))
def tabN : List FD → List UInt8 → Nat
  | [], _ => 0
  | f :: r, l => fldN f l + tabN r (l.drop (fldN f l))
def tabVs : List FD → List UInt8 → List Val
  | [], _ => []
  | f :: r, l => fldV f l :: tabVs r (l.drop (fldN f l))
theorem tabN_app : ∀ (xs ys : List FD) (l : List UInt8), tabN (xs ++ ys) l = tabN xs l + tabN ys (l.drop (tabN xs l))
  | [], ys, l => by simp [tabN]
  | f :: r, ys, l => by
    show fldN f l + tabN (r ++ ys) _ = _
    rw [tabN_app r ys, tabN, List.drop_drop]
    omega
theorem tabOk_app : ∀ (xs ys : List FD) (l : List UInt8), tabOk (xs ++ ys) l = (tabOk xs l && tabOk ys (l.drop (tabN xs l)))
  | [], ys, l => by simp [tabN, tabOk]
  | f :: r, ys, l => by
    show (fldOk f l && tabOk (r ++ ys) _) = _
    rw [tabOk_app r ys, tabN, tabOk, List.drop_drop, Bool.and_assoc]
theorem tabVs_app : ∀ (xs ys : List FD) (l : List UInt8), tabVs (xs ++ ys) l = tabVs xs l ++ tabVs ys (l.drop (tabN xs l))
  | [], ys, l => by simp [tabN, tabVs]
  | f :: r, ys, l => by
    show fldV f l :: tabVs (r ++ ys) _ = _
    rw [tabVs_app r ys, tabN, tabVs, List.drop_drop]
    rfl
theorem tabVs_len : ∀ (xs : List FD) (l : List UInt8), (tabVs xs l).length = xs.length
  | [], _ => rfl
  | f :: r, l => by simp [tabVs, tabVs_len r]
theorem pfx_le {wd : ByteArray} {l : List UInt8} (h : pfx wd l = true) : wd.size ≤ l.length := by
  have := (List.isPrefixOf_iff_prefix.1 h).length_le
  rwa [size_data] at this
theorem fldN_le {f : FD} {l : List UInt8} (h : fldOk f l = true) : fldN f l ≤ l.length := by
  unfold fldOk at h
  rw [Bool.and_eq_true, Bool.and_eq_true] at h
  have h1 := pfx_le h.1
  have h2 := wordL_le (l.drop f.wd.size)
  have h3 := pfx_le h.2.2
  rw [List.length_drop] at h2
  rw [List.length_drop, List.length_drop] at h3
  unfold fldN
  unfold fldW at *
  omega
theorem tabN_le : ∀ (xs : List FD) (l : List UInt8), tabOk xs l = true → tabN xs l ≤ l.length
  | [], _, _ => Nat.zero_le _
  | f :: r, l, h => by
    rw [tabOk, Bool.and_eq_true] at h
    have h1 := fldN_le h.1
    have h2 := tabN_le r _ h.2
    rw [List.length_drop] at h2
    show fldN f l + tabN r _ ≤ _
    omega
theorem take_snoc {α : Type} (ts : List α) (i : Nat) (h : i < ts.length) : ts.take (i + 1) = ts.take i ++ [ts[i]] := List.take_succ_eq_append_getElem h
theorem tabOk_one (f : FD) (l : List UInt8) : tabOk [f] l = fldOk f l := by simp [tabOk]
theorem tabN_one (f : FD) (l : List UInt8) : tabN [f] l = fldN f l := by simp [tabN]
theorem tabOk_stop {ts : List FD} {l : List UInt8} {i : Nat} (h : i < ts.length) (h2 : fldOk ts[i] (l.drop (tabN (ts.take i) l)) = false) : tabOk ts l = false := by
  rw [← List.take_append_drop (i + 1) ts, tabOk_app, take_snoc ts i h, tabOk_app, tabOk_one, h2, Bool.and_false, Bool.false_and]
structure StW (R rb : Nat) (St : List Val → World → Prop) : Prop where
  kb : ∀ vs w w', St vs w → Kb R w w' → St vs w'
  lt : ∀ vs w, St vs w → rb < w.heap.size
  ne : R ≠ rb
set_option maxHeartbeats 2000000 in
set_option maxRecDepth 100000 in
/-- reader.read, over a table in memory -/
theorem read_any (ts : List FD) (b cap R rb : Nat) (tx : ByteArray) (a : Nat) (St : List Val → World → Prop) (ok : StW R rb St) (hlen : ts.length ≤ 64) (hT : ∀ vs w, St vs w → TabAt b w ts)
    (hset : ∀ i (h : i < ts.length) vs, vs.length = i → SetsAs ts[i] rb vs St) (hen : ∀ i (h : i < ts.length), Enters Tryz.prog ts[i].sf) (hrd : ∀ i (h : i < ts.length), ReadsAs ts[i].sh)
    (w : World) (hs : St [] w) (hr : RdAt R tx a w) (ha : a ≤ tx.size) (htx : tx.size < 9223372036854775808) :
    Calls Tryz.prog 48 #[.pointer (some ⟨R, 0, none⟩), .slice (some ⟨b, 0, none⟩) ts.length cap] w fun e w' => e = .returned (.bool (tabOk ts (tx.data.toList.drop a))) ∧ (tabOk ts (tx.data.toList.drop a) = true → St (tabVs ts (tx.data.toList.drop a)) w' ∧ RdAt R tx (a + tabN ts (tx.data.toList.drop a)) w') ∧ Lost R tx St w' := by
  obtain ⟨W0, hW0⟩ : ∃ W0, W0 = w.alloc (.cells #[.pointer (some ⟨R, 0, none⟩)] 137) := ⟨_, rfl⟩
  have b0 : Below w.heap.size w W0 := by rw [hW0]; exact (Below.refl _ w).alloc (Nat.le_refl _) _
  have x0 : W0.cell? ⟨w.heap.size, 0, none⟩ = some (.pointer (some ⟨R, 0, none⟩)) := by rw [hW0]; simp
  have hR := hr.lt
  have hrb := ok.lt _ _ hs
  -- the record, and the box of the reader
  have ok2 : StOk R rb w.heap.size (fun vs w' => St vs w' ∧ w'.cell? ⟨w.heap.size, 0, none⟩ = some (.pointer (some ⟨R, 0, none⟩))) := ⟨fun vs w1 w2 h k => ⟨ok.kb _ _ _ h.1 k, by rw [k.cell (lt_of_cell? h.2) (by omega)]; exact h.2⟩, fun vs w1 h => h.2, fun vs w1 h => ok.lt _ _ h.1, ok.ne⟩
  have hset2 : ∀ i (h : i < ts.length) vs, vs.length = i → SetsAs ts[i] rb vs (fun vs w' => St vs w' ∧ w'.cell? ⟨w.heap.size, 0, none⟩ = some (.pointer (some ⟨R, 0, none⟩))) := fun i h vs hv v w1 h1 => (hset i h vs hv v w1 h1.1).mono fun e w2 ⟨e1, s1, k1⟩ => ⟨e1, ⟨s1, by rw [k1.cell (lt_of_cell? h1.2) (by omega)]; exact h1.2⟩, k1⟩
  generalize hl : tx.data.toList.drop a = l at *
  have hll : l.length = tx.size - a := by rw [← hl, List.length_drop, size_data]
  have C := hide (walk_any 112 (enters_of Tryz.func112 (by kernel_rfl) rfl) #[.pointer (some ⟨w.heap.size, 0, none⟩)] b cap ts W0
    (fun i w' => tabOk (ts.take i) l = true ∧ (St (tabVs (ts.take i) l) w' ∧ w'.cell? ⟨w.heap.size, 0, none⟩ = some (.pointer (some ⟨R, 0, none⟩))) ∧ RdAt R tx (a + tabN (ts.take i) l) w')
    (fun i w' => fldOk (ts[i]?.getD ⟨⟨#[]⟩, 0, 0, 0, 0, 0, #[], ⟨#[]⟩⟩) (l.drop (tabN (ts.take i) l)) = false ∧ Lost R tx St w') (by omega)
    ⟨rfl, ⟨ok.kb _ _ _ hs (Kb.of b0), x0⟩, hr.below b0⟩
    (fun i w' _ h => hT _ _ h.2.1.1)
    (fun i w' o _ h => by
      have bo : Below w'.heap.size w' (w'.alloc o) := (Below.refl _ _).alloc (Nat.le_refl _) _
      exact ⟨h.1, ok2.kb _ _ _ h.2.1 (Kb.of bo), h.2.2.below bo⟩)
    (fun i h w' hI => by
      obtain ⟨i1, i2, i3⟩ := hI
      have hn := tabN_le _ _ i1
      have e1 : tx.data.toList.drop (a + tabN (ts.take i) l) = l.drop (tabN (ts.take i) l) := by rw [← hl, List.drop_drop]
      have hvl : (tabVs (ts.take i) l).length = i := by rw [tabVs_len, List.length_take]; omega
      cases hp : pfx ts[i].wd (l.drop (tabN (ts.take i) l)) with
      | false =>
        refine (read1_no ts[i] R rb w.heap.size tx _ _ _ ok2 w' i2 i3 (by omega) htx (by rw [e1]; exact hp)).mono fun e w'' ⟨e2, vs2, a2, s2, r2⟩ => .inr ⟨e2, ?_, vs2, a2, s2.1, r2⟩
        rw [List.getElem?_eq_getElem h]
        show fldOk ts[i] _ = false
        unfold fldOk; rw [hp]; rfl
      | true =>
        refine (read1_yes ts[i] (hen i h) (hrd i h) R rb w.heap.size tx _ _ _ ok2 (hset2 i h _ hvl) w' i2 i3 (by omega) htx (by rw [e1]; exact hp)).mono fun e w'' ⟨e2, o2, l2⟩ => ?_
        rw [e1] at e2 o2
        cases hf : fldOk ts[i] (l.drop (tabN (ts.take i) l)) with
        | true =>
          obtain ⟨o3, o4⟩ := o2 hf
          refine .inl ⟨by rw [e2, hf], ?_, ?_, ?_⟩
          · rw [take_snoc ts i h, tabOk_app, i1, tabOk_one, hf]; rfl
          · rw [take_snoc ts i h, tabVs_app]; exact o3
          · rw [take_snoc ts i h, tabN_app, tabN_one, ← Nat.add_assoc]; exact o4
        | false =>
          obtain ⟨vs2, a2, s2, r2⟩ := l2
          refine .inr ⟨by rw [e2, hf], ?_, vs2, a2, s2.1, r2⟩
          rw [List.getElem?_eq_getElem h]; exact hf))
  have D := hide (C.out.mono (R' := fun e w' => e = .returned (.bool (tabOk ts l)) ∧ (tabOk ts l = true → St (tabVs ts l) w' ∧ RdAt R tx (a + tabN ts l) w') ∧ Lost R tx St w') fun e w' h => by
    rcases h with ⟨rfl, h1, h2, h3⟩ | ⟨rfl, i, hi, h1, h2⟩
    · rw [List.take_of_length_le (Nat.le_refl _)] at h1 h2 h3
      exact ⟨by rw [h1], fun _ => ⟨h2.1, h3⟩, Lost.mk h2.1 h3⟩
    · rw [List.getElem?_eq_getElem hi] at h1
      have := tabOk_stop hi h1
      refine ⟨by rw [this], ?_, h2⟩
      intro h
      rw [this] at h
      cases h)
  clear C hset hset2 hen hrd hT ok2 x0 b0 hs hr ok
  generalize tabOk ts l = TO at *
  have hmf : ∀ (fn : Fn) (first cap : Array Value) (w : World), (Instr.makeFunc fn first cap).run Tryz.prog w = .ok (.func fn first cap) w := fun _ _ _ _ => rfl
  go_enter Tryz.func48, Tryz.ntmps48
  go_wp2_with fail
  rw [← hW0]
  clear hW0
  refine Calls.mono D.out ?_
  rintro e w1 ⟨rfl, h1, h2⟩
  have H1 := hide h1
  have H2 := hide h2
  clear h1 h2 D
  go_wp2
  go_ret
  exact ⟨rfl, H1.out, H2.out⟩
end Go.Proofs.YtfpalfpfijcpbaaGreatDoor
