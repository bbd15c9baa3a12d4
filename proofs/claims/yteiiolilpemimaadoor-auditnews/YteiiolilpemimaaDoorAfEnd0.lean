import Derived.Test.YteiiolilpemimaaDoorGAfTold
import Derived.Test.YteiiolilpemimaaDoorGAeKeep
namespace Go.Proofs.YteiiolilpemimaaDoor.Cn
open Go.RowKit
theorem qM_bg (v : Au) (ver : Int) (i j q : Nat) (s : Sl) : qM (v.bg ver i) q s = qM (v.bg ver j) q s := rfl
theorem mem_begL {v : Au} {ver : Int} {m : Mg} (N : Nat) : ∀ (i : Nat), m ∈ begL v ver i → ∃ (j : Nat) (k : Ho) (s : Sl), j < i ∧ v.hs[j]? = some k ∧ k.sl[0]? = some s ∧ m = qM (v.bg ver N) j s
  | 0, h => by simp [begL] at h
  | i + 1, h => by
    unfold begL at h
    cases hb : ((v.hs[i]?).bind fun h => h.sl[0]?) with
    | none =>
      rw [hb] at h
      obtain ⟨j, k, s, a, b⟩ := mem_begL N i h
      exact ⟨j, k, s, by omega, b⟩
    | some s =>
      rw [hb] at h
      rcases List.mem_append.1 h with h | h
      · obtain ⟨j, k, s, a, b⟩ := mem_begL N i h
        exact ⟨j, k, s, by omega, b⟩
      · simp at h
        subst h
        obtain ⟨k, hk, hs⟩ := Option.bind_eq_some_iff.1 hb
        exact ⟨i, k, s, by omega, hk, hs, rfl⟩
theorem begL_mem {v : Au} {ver : Int} (N : Nat) {j : Nat} {k : Ho} {s : Sl} (hk : v.hs[j]? = some k) (hs : k.sl[0]? = some s) : ∀ (i : Nat), j < i → qM (v.bg ver N) j s ∈ begL v ver i
  | 0, h => by omega
  | i + 1, h => by
    unfold begL
    by_cases e : j = i
    · subst e
      rw [show ((v.hs[j]?).bind fun h => h.sl[0]?) = some s by rw [hk]; exact hs]
      exact List.mem_append.2 (Or.inr (by simp; rfl))
    · have := begL_mem (ver := ver) N hk hs i (by omega)
      cases hb : ((v.hs[i]?).bind fun h => h.sl[0]?) with
      | none => exact this
      | some s' => exact List.mem_append.2 (Or.inl this)
theorem begL_td {v : Au} {ver : Int} : ∀ (i : Nat), ((begL v ver i).map (·.td)).Nodup
  | 0 => by simp [begL]
  | i + 1 => by
    unfold begL
    have ih := begL_td (v := v) (ver := ver) i
    cases hb : ((v.hs[i]?).bind fun h => h.sl[0]?) with
    | none => exact ih
    | some s' =>
      show ((begL v ver i ++ [qM (v.bg ver i) i s']).map (·.td)).Nodup
      rw [List.map_append, List.nodup_append]
      refine ⟨ih, by simp, fun a ha b hb => ?_⟩
      obtain ⟨m, hm, rfl⟩ := List.mem_map.1 ha
      obtain ⟨j, k, s, h1, _, _, rfl⟩ := mem_begL 0 i hm
      simp at hb
      subst hb
      show (j : Int) ≠ (i : Int)
      omega
theorem Sa.start {ys : List Ce} {ver : Int} {n : Nat} {v : Au} (u : Uq v.hs n) (h0 : v.num = 0) (ht : v.told = []) (hz : ∀ k ∈ v.hs, k.stt = 0) (hb : busyL (v.bg ver v.hs.length).hs = true) : Sa ys ver n (v.bg ver v.hs.length) (begL v ver v.hs.length) 0 := by
  have at' : ∀ (j : Nat) (y : Ho), (v.bg ver v.hs.length).hs[j]? = some y → ∃ k, v.hs[j]? = some k ∧ y = begH v.now k := fun j y hy => by
    have hy' : (begHs v v.hs.length)[j]? = some y := hy
    rw [beg_at] at hy'
    cases hv : v.hs[j]? with
    | none => rw [hv] at hy'; simp at hy'
    | some k => rw [hv] at hy'; exact ⟨k, rfl, (by simpa using hy'.symm)⟩
  have slE : ∀ k, (begH v.now k).sl = k.sl := fun k => by unfold begH; split <;> rfl
  have zero : ∀ k ∈ v.hs, cnN (begH v.now k) = 0 ∧ dnN (begH v.now k) = 0 ∧ ((begH v.now k).stt = 0 ∧ k.sl = [] ∨ (begH v.now k).stt = 1 ∧ (begH v.now k).pl = 0 ∧ k.sl ≠ []) := fun k hk => by
    have z := hz k hk
    unfold begH
    split
    · rename_i e
      exact ⟨by unfold cnN; rw [if_pos z, e]; rfl, by unfold dnN; rw [if_pos z, e]; rfl, Or.inl ⟨z, e⟩⟩
    · rename_i e
      exact ⟨rfl, rfl, Or.inr ⟨rfl, rfl, e⟩⟩
  refine ⟨⟨fun q q' i i' k k' s a b c d => ?_, fun q k a => ?_, fun q k a => ?_⟩, by show v.num + 1 = 1; omega, rfl, ⟨fun m hm => ?_, fun q k hk h1 => ?_, begL_td _⟩, ?_, fun k hk => ?_, fun _ => ⟨fun q k hk i s hi _ => ?_, fun q k hk h2 => ?_, fun s c => ?_, by show (v.told.map (·.1)).Nodup; rw [ht]; simp⟩, fun e => ?_⟩
  · obtain ⟨x, x1, rfl⟩ := at' _ _ a
    obtain ⟨y, y1, rfl⟩ := at' _ _ b
    exact u.one q q' i i' x y s x1 y1 (by rw [← slE]; exact c) (by rw [← slE]; exact d)
  · obtain ⟨x, x1, rfl⟩ := at' _ _ a
    rw [slE]
    exact u.up q x x1
  · obtain ⟨x, x1, rfl⟩ := at' _ _ a
    rw [slE]
    exact u.rep q x x1
  · obtain ⟨j, k, s, hj, hk, hs, rfl⟩ := mem_begL v.hs.length _ hm
    have hz' := (zero k (List.mem_of_getElem? hk)).2.2
    refine ⟨j, begH v.now k, s, by show (begHs v v.hs.length)[j]? = _; rw [beg_at, hk]; rfl, ?_, ?_, rfl⟩
    · rcases hz' with ⟨_, e⟩ | ⟨e, _⟩
      · rw [e] at hs; simp at hs
      · exact e
    · rcases hz' with ⟨_, e⟩ | ⟨_, e, _⟩
      · rw [e] at hs; simp at hs
      · rw [e, slE]; exact hs
  · obtain ⟨x, x1, rfl⟩ := at' _ _ hk
    rcases (zero x (List.mem_of_getElem? x1)).2.2 with ⟨e, _⟩ | ⟨_, _, e⟩
    · omega
    · obtain ⟨s, hs⟩ : ∃ s, x.sl[0]? = some s := ⟨_, List.getElem?_eq_getElem (List.length_pos_iff.2 e)⟩
      exact ⟨_, begL_mem v.hs.length x1 hs _ (List.getElem?_eq_some_iff.1 x1).1, rfl⟩
  · have all0 : ∀ l : List Ho, (∀ y ∈ l, cnN y = 0) → cnL l = 0 := by
      intro l
      induction l with
      | nil => intro _; rfl
      | cons a r ih =>
        intro h
        unfold cnL at *
        simp only [List.map_cons, List.sum_cons]
        rw [h a (by simp), ih (fun y hy => h y (List.mem_cons_of_mem _ hy))]
    refine all0 _ (fun y hy => ?_)
    obtain ⟨j, hj⟩ := List.mem_iff_getElem?.1 hy
    obtain ⟨x, x1, rfl⟩ := at' _ _ hj
    exact (zero x (List.mem_of_getElem? x1)).1
  · obtain ⟨j, hj⟩ := List.mem_iff_getElem?.1 hk
    obtain ⟨x, x1, rfl⟩ := at' _ _ hj
    rcases (zero x (List.mem_of_getElem? x1)).2.2 with ⟨e, _⟩ | ⟨e, _⟩
    · exact Or.inl e
    · exact Or.inr (Or.inl e)
  · obtain ⟨x, x1, rfl⟩ := at' _ _ hk
    have := (zero x (List.mem_of_getElem? x1)).2.1
    omega
  · obtain ⟨x, x1, rfl⟩ := at' _ _ hk
    rcases (zero x (List.mem_of_getElem? x1)).2.2 with ⟨e, _⟩ | ⟨e, _⟩ <;> omega
  · show tlk v.told s = _ ↔ _
    rw [ht]
    constructor
    · intro q
      simp [tlk] at q
    · rintro ⟨q, k, i, a, b, _⟩
      obtain ⟨x, x1, rfl⟩ := at' _ _ a
      have := (zero x (List.mem_of_getElem? x1)).2.1
      omega
  · rw [hb] at e
    exact absurd e (by decide)
/-- what the table asks for -/
def celL (ys : List Ce) (q : Nat) (l : List Sl) : List Ce := (l.map (cel ys q)).takeWhile fitB
def cellW (ys : List Ce) (S : Nat → List Sl) (i : Nat) : List Ce := (List.range i).flatMap fun q => celL ys q (S q)
theorem cellW_succ (ys : List Ce) (S : Nat → List Sl) (i : Nat) : cellW ys S (i + 1) = cellW ys S i ++ celL ys i (S i) := by
  unfold cellW
  rw [List.range_succ, List.flatMap_append]
  simp
def allF (ys : List Ce) (q : Nat) (l : List Sl) : Bool := l.all fun s => fitB (cel ys q s)
def missW (ys : List Ce) (S : Nat → List Sl) : Nat → List Int
  | 0 => []
  | i + 1 => if allF ys i (S i) = true then missW ys S i else missW ys S i ++ [(i : Int)]
def cpr (c : Ce) : ByteArray × Int := (c.dg, c.en)
def dfP (C : List Ce) (p : Int) : Bool := match C.filter (fun c => c.pt == p) with
  | [] => false
  | a :: r => r.any fun b => !decide (cpr b = cpr a)
def difW (C : List Ce) : List Int := ((List.range 64).filter fun (p : Nat) => dfP C (p : Int)).map fun (p : Nat) => (p : Int)
theorem cel_pt (ys : List Ce) (q : Nat) (s : Sl) : (cel ys q s).pt = (s.1 : Int) := by
  unfold cel tellC
  cases h : ys.find? (fun c => c.no == (q : Int) && c.pt == (s.1 : Int)) with
  | none => rfl
  | some c =>
    have := List.find?_some h
    simp at this
    exact this.2
theorem dfP_iff {C : List Ce} {p : Int} : dfP C p = true ↔ ∃ a ∈ C, ∃ b ∈ C, a.pt = p ∧ b.pt = p ∧ cpr b ≠ cpr a := by
  unfold dfP
  cases h : C.filter (fun c => c.pt == p) with
  | nil =>
    simp only [Bool.false_eq_true, false_iff]
    rintro ⟨a, ha, _, _, e, _⟩
    have : a ∈ C.filter (fun c => c.pt == p) := List.mem_filter.2 ⟨ha, by simp [e]⟩
    rw [h] at this
    simp at this
  | cons a r =>
    have mem : ∀ x, x ∈ C ∧ x.pt = p ↔ x = a ∨ x ∈ r := fun x => by
      have : x ∈ C.filter (fun c => c.pt == p) ↔ _ := List.mem_filter
      rw [h] at this
      simp at this
      exact this.symm
    simp only [List.any_eq_true, Bool.not_eq_true', decide_eq_false_iff_not]
    constructor
    · rintro ⟨b, hb, hne⟩
      have ha := (mem a).2 (Or.inl rfl)
      have hb' := (mem b).2 (Or.inr hb)
      exact ⟨a, ha.1, b, hb'.1, ha.2, hb'.2, hne⟩
    · rintro ⟨x, hx, y, hy, e1, e2, hne⟩
      have h1 := (mem x).1 ⟨hx, e1⟩
      have h2 := (mem y).1 ⟨hy, e2⟩
      by_cases q : cpr x = cpr a
      · have : cpr y ≠ cpr a := fun e => hne (by rw [q]; exact e)
        rcases h2 with rfl | h2
        · exact absurd rfl this
        · exact ⟨y, h2, this⟩
      · rcases h1 with rfl | h1
        · exact absurd rfl q
        · exact ⟨x, h1, q⟩
theorem takeW {α : Type} {f : α → Bool} : ∀ (l : List α) (d : Nat), (∀ i, i < d → ∀ a, l[i]? = some a → f a = true) → ((l.length ≤ d) ∨ ∃ a, l[d]? = some a ∧ f a = false) → l.takeWhile f = l.take d
  | [], d, _, _ => by simp
  | a :: r, 0, _, h => by
    rcases h with h | ⟨b, hb, hf⟩
    · simp at h
    · simp at hb
      subst hb
      simp [hf]
  | a :: r, d + 1, h1, h2 => by
    have ha := h1 0 (by omega) a rfl
    rw [List.takeWhile_cons, if_pos ha, List.take_succ_cons, takeW r d (fun i hi b hb => h1 (i + 1) (by omega) b (by simpa using hb)) ?_]
    rcases h2 with h2 | ⟨b, hb, hf⟩
    · left
      simp at h2
      exact h2
    · exact Or.inr ⟨b, by simpa using hb, hf⟩
/-- at the end -/
structure Ds (S : Nat → List Sl) (nn : Nat) (hs : List Ho) : Prop where
  len : hs.length = nn
  sl : ∀ (j : Nat) (k : Ho), hs[j]? = some k → k.sl = S j
theorem Tn.cells {ys : List Ce} {hs : List Ho} {T : Tl} {S : Nat → List Sl} {nn : Nat} (h : Tn ys hs T) (d : Ds S nn hs) (hst : ∀ k ∈ hs, k.stt = 0 ∨ k.stt = 2) (c : Ce) : c ∈ cellW ys S nn ↔ ∃ (q : Nat) (k : Ho) (i : Nat) (s : Sl), hs[q]? = some k ∧ i < dnN k ∧ k.sl[i]? = some s ∧ c = cel ys q s := by
  have one : ∀ (q : Nat) (k : Ho), hs[q]? = some k → celL ys q (S q) = (k.sl.take (dnN k)).map (cel ys q) := fun q k hk => by
    unfold celL
    rw [← d.sl q k hk, List.map_take, takeW (d := dnN k)]
    · intro i hi a ha
      rw [List.getElem?_map] at ha
      obtain ⟨s, hs', rfl⟩ := Option.map_eq_some_iff.1 ha
      exact h.fit q k hk i s hi hs'
    · rcases hst k (List.mem_of_getElem? hk) with e | e
      · left
        unfold dnN
        rw [if_pos e, List.length_map]
        exact Nat.le_refl _
      · right
        obtain ⟨s, a1, a2⟩ := h.bad q k hk e
        refine ⟨cel ys q s, ?_, a2⟩
        unfold dnN
        rw [if_neg (by omega), List.getElem?_map, a1]
        rfl
  unfold cellW
  rw [List.mem_flatMap]
  constructor
  · rintro ⟨q, hq, hc⟩
    have hqn : q < hs.length := by rw [d.len]; exact List.mem_range.1 hq
    rw [one q _ (List.getElem?_eq_getElem hqn)] at hc
    obtain ⟨s, hs', rfl⟩ := List.mem_map.1 hc
    obtain ⟨i, hi⟩ := List.mem_iff_getElem?.1 hs'
    rw [List.getElem?_take] at hi
    split at hi
    · rename_i hlt
      exact ⟨q, _, i, s, List.getElem?_eq_getElem hqn, hlt, hi, rfl⟩
    · simp at hi
  · rintro ⟨q, k, i, s, a1, a2, a3, rfl⟩
    refine ⟨q, List.mem_range.2 (by rw [← d.len]; exact (List.getElem?_eq_some_iff.1 a1).1), ?_⟩
    rw [one q k a1]
    refine List.mem_map.2 ⟨s, List.mem_iff_getElem?.2 ⟨i, ?_⟩, rfl⟩
    rw [List.getElem?_take, if_pos a2]
    exact a3
theorem tlk_mem {T : Tl} {s : Sl} {c : Ct2} (h : tlk T s = some c) : (s, c) ∈ T := by
  unfold tlk at h
  obtain ⟨a, ha, rfl⟩ := Option.map_eq_some_iff.1 h
  have h1 := List.find?_some ha
  have h2 := List.mem_of_find?_eq_some ha
  simp at h1
  rw [← h1]
  exact h2
theorem mem_tlk {T : Tl} (hn : (T.map (·.1)).Nodup) {a : Sl × Ct2} (h : a ∈ T) : tlk T a.1 = some a.2 := by
  unfold tlk
  induction T with
  | nil => simp at h
  | cons b r ih =>
    simp only [List.map_cons, List.nodup_cons] at hn
    rw [List.find?_cons]
    rcases List.mem_cons.1 h with rfl | h
    · simp
    · have hne : b.1 ≠ a.1 := fun e => hn.1 (e ▸ List.mem_map.2 ⟨a, h, rfl⟩)
      have : decide (b.1 = a.1) = false := by simpa using hne
      rw [this]
      exact ih hn.2 h

theorem Tn.isDf_iff {ys : List Ce} {hs : List Ho} {T : Tl} {S : Nat → List Sl} {nn n : Nat} (h : Tn ys hs T) (u : Uq hs n) (d : Ds S nn hs) (hst : ∀ k ∈ hs, k.stt = 0 ∨ k.stt = 2) (p : Int) : isDf T n p ↔ dfP (cellW ys S nn) p = true := by
  rw [dfP_iff]
  constructor
  · rintro ⟨⟨s0, c0⟩, h0, e0, hd⟩
    have e0' : (s0.1 : Int) = p := e0
    unfold dfA at hd
    obtain ⟨r, hr, hd⟩ := List.any_eq_true.1 hd
    unfold dfR at hd
    have k0 := mem_tlk h.nd h0
    cases hc : tlk T (s0.1, r) with
    | none => rw [hc] at hd; simp at hd
    | some c1 =>
      rw [hc] at hd
      have hne : c1 ≠ c0 := by simpa using hd
      obtain ⟨q0, x0, i0, a1, a2, a3, a4⟩ := (h.tl _ _).1 k0
      obtain ⟨q1, x1, i1, b1, b2, b3, b4⟩ := (h.tl _ _).1 hc
      dsimp only at a3 a4
      subst a4
      subst b4
      exact ⟨cel ys q0 s0, (h.cells d hst _).2 ⟨q0, x0, i0, s0, a1, a2, a3, rfl⟩, cel ys q1 (s0.1, r), (h.cells d hst _).2 ⟨q1, x1, i1, _, b1, b2, b3, rfl⟩, by rw [cel_pt]; exact e0', by rw [cel_pt]; exact e0', hne⟩
  · rintro ⟨a, ha, b, hb, ea, eb, hne⟩
    obtain ⟨q0, x0, i0, s0, a1, a2, a3, rfl⟩ := (h.cells d hst _).1 ha
    obtain ⟨q1, x1, i1, s1, b1, b2, b3, rfl⟩ := (h.cells d hst _).1 hb
    rw [cel_pt] at ea eb
    have t0 := (h.tl s0 _).2 ⟨q0, x0, i0, a1, a2, a3, rfl⟩
    have t1 := (h.tl s1 _).2 ⟨q1, x1, i1, b1, b2, b3, rfl⟩
    have r1 := (u.rep q1 x1 b1 s1 (List.mem_of_getElem? b3)).1
    have es : s1 = (s0.1, s1.2) := Prod.ext (by show s1.1 = s0.1; omega) rfl
    refine ⟨_, tlk_mem t0, ea, ?_⟩
    unfold dfA
    refine List.any_eq_true.2 ⟨s1.2, List.mem_range.2 r1, ?_⟩
    unfold dfR
    dsimp only
    rw [← es, t1]
    have hne' : ¬ ((cel ys q1 s1).dg, (cel ys q1 s1).en) = ((cel ys q0 s0).dg, (cel ys q0 s0).en) := hne
    simp only [decide_eq_false hne', Bool.not_false]
theorem up_eq : ∀ (a b : List Int), a.Pairwise (· < ·) → b.Pairwise (· < ·) → (∀ p, p ∈ a ↔ p ∈ b) → a = b
  | [], [], _, _, _ => rfl
  | [], y :: b, _, _, h => by have := (h y).2 (by simp); simp at this
  | x :: a, [], _, _, h => by have := (h x).1 (by simp); simp at this
  | x :: a, y :: b, ha, hb, h => by
    rw [List.pairwise_cons] at ha hb
    have hxy : x = y := by
      have h1 := (h x).1 (by simp)
      have h2 := (h y).2 (by simp)
      rcases List.mem_cons.1 h1 with e | e
      · exact e
      · rcases List.mem_cons.1 h2 with e' | e'
        · exact e'.symm
        · have := hb.1 x e
          have := ha.1 y e'
          omega
    subst hxy
    rw [up_eq a b ha.2 hb.2 (fun p => ?_)]
    have := h p
    simp only [List.mem_cons] at this
    constructor
    · intro q
      rcases this.1 (Or.inr q) with e | e
      · have := ha.1 p q
        omega
      · exact e
    · intro q
      rcases this.2 (Or.inr q) with e | e
      · have := hb.1 p q
        omega
      · exact e
theorem srt_up {D : List Int} (h : D.Nodup) : (srtI D).Pairwise (· < ·) ∧ ∀ p, p ∈ srtI D ↔ p ∈ D := by
  have hp : (srtI D).Perm D := List.mergeSort_perm D _
  have hs : (srtI D).Pairwise (fun x y => decide (x ≤ y) = true) := List.pairwise_mergeSort (fun a b c h1 h2 => by simp at *; omega) (fun a b => by simp; omega) D
  have hn : (srtI D).Nodup := hp.nodup_iff.2 h
  refine ⟨?_, fun p => hp.mem_iff⟩
  exact (hs.and hn).imp (fun {a b} hab => by
    have h1 := of_decide_eq_true hab.1
    have h2 := hab.2
    omega)
theorem difW_up (C : List Ce) : (difW C).Pairwise (· < ·) := by
  unfold difW
  rw [List.pairwise_map]
  refine List.Pairwise.sublist List.filter_sublist ?_
  exact List.pairwise_lt_range.imp (fun {a b} h => by omega)
theorem Tn.differ {ys : List Ce} {hs : List Ho} {T : Tl} {S : Nat → List Sl} {nn n : Nat} (h : Tn ys hs T) (u : Uq hs n) (d : Ds S nn hs) (hst : ∀ k ∈ hs, k.stt = 0 ∨ k.stt = 2) {DL : List Int} (hd : DfL T n DL) : DL = difW (cellW ys S nn) := by
  obtain ⟨D, h1, h2, rfl⟩ := hd.ex
  obtain ⟨s1, s2⟩ := srt_up h1
  refine up_eq _ _ s1 (difW_up _) (fun p => ?_)
  rw [s2, h2, h.isDf_iff u d hst]
  unfold difW
  constructor
  · intro q
    obtain ⟨a, ha, _, _, e, _⟩ := dfP_iff.1 q
    obtain ⟨q0, x0, i0, s0, a1, a2, a3, rfl⟩ := (h.cells d hst _).1 ha
    rw [cel_pt] at e
    have := (u.rep q0 x0 a1 s0 (List.mem_of_getElem? a3)).2
    exact List.mem_map.2 ⟨s0.1, List.mem_filter.2 ⟨List.mem_range.2 this, by rw [e]; exact q⟩, e⟩
  · intro q
    obtain ⟨a, ha, rfl⟩ := List.mem_map.1 q
    exact (List.mem_filter.1 ha).2
theorem Tn.missing {ys : List Ce} {hs : List Ho} {T : Tl} {S : Nat → List Sl} {nn : Nat} (h : Tn ys hs T) (d : Ds S nn hs) (hst : ∀ k ∈ hs, k.stt = 0 ∨ k.stt = 2) : ∀ i, i ≤ nn → pickL (fun h => h.stt == 2) hs i = missW ys S i
  | 0, _ => rfl
  | i + 1, hi => by
    have hil : i < hs.length := by rw [d.len]; omega
    have hk : hs[i]? = some hs[i] := List.getElem?_eq_getElem hil
    rw [pickL_succ _ _ _ hil, Tn.missing h d hst i (by omega)]
    show _ = if allF ys i (S i) = true then missW ys S i else missW ys S i ++ [(i : Int)]
    have hS := d.sl i _ hk
    rcases hst _ (List.mem_of_getElem? hk) with e | e
    · rw [if_neg (by simp [e]), if_pos]
      unfold allF
      rw [List.all_eq_true]
      intro s hs'
      rw [← hS] at hs'
      obtain ⟨j, hj⟩ := List.mem_iff_getElem?.1 hs'
      exact h.fit i _ hk j s (by unfold dnN; rw [if_pos e]; exact (List.getElem?_eq_some_iff.1 hj).1) hj
    · rw [if_pos (by simp [e]), if_neg]
      intro q
      obtain ⟨s, a1, a2⟩ := h.bad i _ hk e
      unfold allF at q
      rw [List.all_eq_true] at q
      have := q s (by rw [← hS]; exact List.mem_of_getElem? a1)
      rw [this] at a2
      exact absurd a2 (by decide)
/-- what a report must say -/
structure Rw (ys : List Ce) (S : Nat → List Sl) (nn : Nat) (ver : Int) (slots c : Nat) (v : Au) : Prop where
  idle : busyL v.hs = false
  jb : v.jb = 1
  jv : v.jv = ver
  dl : v.dl = difW (cellW ys S nn)
  ml : v.ml = missW ys S nn
  jo : v.jo = outO v.dl.length v.ml.length
  al : v.ml = [] → c = slots
def slN2 (hs : List Ho) : Nat := (hs.map fun k => k.sl.length).sum
theorem Sa.cn_le {ys : List Ce} {ver : Int} {n : Nat} {v : Au} {O : List Mg} {c : Nat} (h : Sa ys ver n v O c) (hpl : ∀ k ∈ v.hs, k.stt = 1 → k.pl < k.sl.length) : ∀ k ∈ v.hs, cnN k ≤ k.sl.length := fun k hk => by
  unfold cnN
  split
  · exact Nat.le_refl _
  · split
    · rename_i e
      obtain ⟨q, hq⟩ := List.mem_iff_getElem?.1 hk
      obtain ⟨T, hT⟩ : ∃ T, Tn ys v.hs T := by
        cases hb : busyL v.hs with
        | true => exact ⟨_, h.go hb⟩
        | false => exact (h.en hb).imp fun _ z => z.1
      obtain ⟨s, hs, _⟩ := hT.bad q k hq e
      exact (List.getElem?_eq_some_iff.1 hs).1
    · rcases h.st k hk with e | e | e
      · omega
      · have := hpl k hk e
        omega
      · omega
theorem Sa.count {ys : List Ce} {ver : Int} {n : Nat} {v : Au} {O : List Mg} {c : Nat} (h : Sa ys ver n v O c) (hpl : ∀ k ∈ v.hs, k.stt = 1 → k.pl < k.sl.length) : c ≤ slN2 v.hs := by
  rw [← h.ct]
  exact cnL_le _ (h.cn_le hpl)
theorem Sa.more {ys : List Ce} {ver : Int} {n : Nat} {v : Au} {O : List Mg} {c : Nat} (h : Sa ys ver n v O c) (ho : O ≠ []) : busyL v.hs = true := by
  obtain ⟨m, hm⟩ := List.exists_mem_of_ne_nil _ ho
  obtain ⟨q, k, s, a, b, _⟩ := h.op.a m hm
  exact busy_at a b
theorem Sa.last {ys : List Ce} {ver : Int} {n nn : Nat} {v : Au} {c : Nat} {S : Nat → List Sl} (h : Sa ys ver n v [] c) (d : Ds S nn v.hs) : Rw ys S nn ver (slN2 v.hs) c v := by
  have h1 : ∀ k ∈ v.hs, k.stt ≠ 1 := fun k hk e => by
    obtain ⟨q, hq⟩ := List.mem_iff_getElem?.1 hk
    obtain ⟨m, hm, _⟩ := h.op.b q k hq e
    simp at hm
  have hb : busyL v.hs = false := by
    unfold busyL
    rw [List.any_eq_false]
    intro k hk
    simpa using h1 k hk
  have hst : ∀ k ∈ v.hs, k.stt = 0 ∨ k.stt = 2 := fun k hk => by
    rcases h.st k hk with e | e | e
    · exact Or.inl e
    · exact absurd e (h1 k hk)
    · exact Or.inr e
  obtain ⟨T, tn, ed⟩ := h.en hb
  obtain ⟨DL, d1, d2, d3⟩ := ed.en.df
  have em : misL v = missW ys S nn := by
    unfold misL
    rw [d.len]
    exact tn.missing d hst nn (Nat.le_refl _)
  refine ⟨hb, ed.en.jb, ed.jv, ?_, by rw [ed.en.ml]; exact em, by rw [d3, d2, ed.en.ml], fun e => ?_⟩
  · rw [d2]
    exact tn.differ h.uq d hst d1
  · rw [← h.ct]
    have hall : ∀ k ∈ v.hs, k.stt = 0 := fun k hk => by
      rcases hst k hk with q | q
      · exact q
      · exfalso
        rw [ed.en.ml] at e
        unfold misL at e
        obtain ⟨j, hj⟩ := List.mem_iff_getElem?.1 hk
        have pos : ∀ i, j < i → pickL (fun h => h.stt == 2) v.hs i ≠ [] := by
          intro i
          induction i with
          | zero => omega
          | succ i ih =>
            intro hji
            unfold pickL
            by_cases ej : j = i
            · subst ej
              rw [if_pos (by rw [hj]; simp [q])]
              simp
            · split
              · simp
              · exact ih (by omega)
        exact pos _ (List.getElem?_eq_some_iff.1 hj).1 e
    unfold cnL slN2
    congr 1
    exact List.map_congr_left fun k hk => by unfold cnN; rw [if_pos (hall k hk)]
/-- the look over the cells for one partition: which one is held against, and are all like it so far? -/
def Sf (C : List Ce) (p : Int) (i : Nat) (k : Int) (b : Bool) : Prop := (k = -1 ∧ b = true ∧ ∀ c ∈ C.take i, c.pt ≠ p) ∨ ∃ (kk : Nat) (h : kk < C.length), kk < i ∧ k = (kk : Int) ∧ C[kk].pt = p ∧ (b = true ↔ ∀ c ∈ C.take i, c.pt = p → cpr c = cpr C[kk])
theorem Sf.start (C : List Ce) (p : Int) : Sf C p 0 (-1) true := Or.inl ⟨rfl, rfl, fun c hc => by simp at hc⟩
theorem take_mem {C : List Ce} {i : Nat} (hi : i < C.length) {c : Ce} : c ∈ C.take (i + 1) ↔ c ∈ C.take i ∨ c = C[i] := by
  rw [List.take_succ_eq_append_getElem hi, List.mem_append]
  simp
theorem Sf.skip {C : List Ce} {p : Int} {i : Nat} {k : Int} {b : Bool} (h : Sf C p i k b) (hi : i < C.length) (hp : C[i].pt ≠ p) : Sf C p (i + 1) k b := by
  rcases h with ⟨h1, h2, h3⟩ | ⟨kk, hk, h1, h2, h3, h4⟩
  · refine Or.inl ⟨h1, h2, fun c hc => ?_⟩
    rcases (take_mem hi).1 hc with hc | rfl
    · exact h3 c hc
    · exact hp
  · refine Or.inr ⟨kk, hk, by omega, h2, h3, h4.trans ⟨fun q c hc hcp => ?_, fun q c hc hcp => q c ((take_mem hi).2 (Or.inl hc)) hcp⟩⟩
    rcases (take_mem hi).1 hc with hc | rfl
    · exact q c hc hcp
    · exact absurd hcp hp
/-- one that counts -/
theorem Sf.step {C : List Ce} {p : Int} {i : Nat} {k : Int} {b : Bool} (h : Sf C p i k b) (hi : i < C.length) (hp : C[i].pt = p) : ∃ (kk : Nat) (hk : kk < C.length), ((k < 0 ∧ kk = i) ∨ (0 ≤ k ∧ k = (kk : Int))) ∧ Sf C p (i + 1) (kk : Int) (b && (decide (C[i].dg = C[kk].dg) && decide (C[i].en = C[kk].en))) := by
  rcases h with ⟨h1, h2, h3⟩ | ⟨kk, hk, h1, h2, h3, h4⟩
  · refine ⟨i, hi, Or.inl ⟨by omega, rfl⟩, Or.inr ⟨i, hi, by omega, rfl, hp, ?_⟩⟩
    rw [h2]
    simp only [decide_true, Bool.and_self, true_iff]
    intro c hc hcp
    rcases (take_mem hi).1 hc with hc | rfl
    · exact absurd hcp (h3 c hc)
    · rfl
  · refine ⟨kk, hk, Or.inr ⟨by omega, h2⟩, Or.inr ⟨kk, hk, by omega, rfl, h3, ?_⟩⟩
    rw [Bool.and_eq_true, h4, Bool.and_eq_true, decide_eq_true_eq, decide_eq_true_eq]
    constructor
    · rintro ⟨q, e1, e2⟩ c hc hcp
      rcases (take_mem hi).1 hc with hc | rfl
      · exact q c hc hcp
      · unfold cpr
        rw [e1, e2]
    · intro q
      have z := q C[i] ((take_mem hi).2 (Or.inr rfl)) hp
      unfold cpr at z
      injection z with e1 e2
      exact ⟨fun c hc hcp => q c ((take_mem hi).2 (Or.inl hc)) hcp, e1, e2⟩
theorem Sf.fin {C : List Ce} {p : Int} {k : Int} {b : Bool} (h : Sf C p C.length k b) : b = !dfP C p := by
  unfold Sf at h
  rw [List.take_length] at h
  cases hd : dfP C p with
  | true =>
    obtain ⟨a, ha, c, hc, e1, e2, hne⟩ := dfP_iff.1 hd
    rcases h with ⟨_, _, h3⟩ | ⟨kk, hk, _, _, _, h4⟩
    · exact absurd e1 (h3 a ha)
    · cases b with
      | false => rfl
      | true =>
        have q := h4.1 rfl
        exact absurd ((q c hc e2).trans (q a ha e1).symm) hne
  | false =>
    rcases h with ⟨_, h2, _⟩ | ⟨kk, hk, _, _, h3, h4⟩
    · exact h2
    · cases b with
      | true => rfl
      | false =>
        exfalso
        have : ¬ ∀ c ∈ C, c.pt = p → cpr c = cpr C[kk] := fun q => by
          have := h4.2 q
          exact absurd this (by decide)
        apply this
        intro c hc hcp
        by_cases e : cpr c = cpr C[kk]
        · exact e
        · have := dfP_iff.2 ⟨C[kk], List.getElem_mem hk, c, hc, h3, hcp, e⟩
          rw [hd] at this
          exact absurd this (by decide)
/-- the partitions below i that differ -/
def difN (C : List Ce) (i : Nat) : List Int := ((List.range i).filter fun (p : Nat) => dfP C (p : Int)).map fun (p : Nat) => (p : Int)
theorem difN_succ (C : List Ce) (i : Nat) : difN C (i + 1) = if dfP C (i : Int) = true then difN C i ++ [(i : Int)] else difN C i := by
  unfold difN
  rw [List.range_succ, List.filter_append, List.map_append]
  by_cases h : dfP C (i : Int) = true
  · rw [if_pos h]
    simp [h]
  · rw [if_neg h]
    simp [h]
theorem difN_len (C : List Ce) (i : Nat) : (difN C i).length ≤ i := by
  induction i with
  | zero => simp [difN]
  | succ i ih =>
    rw [difN_succ]
    split
    · simp; omega
    · omega
theorem missW_len (ys : List Ce) (S : Nat → List Sl) (i : Nat) : (missW ys S i).length ≤ i := by
  induction i with
  | zero => simp [missW]
  | succ i ih =>
    unfold missW
    split
    · omega
    · simp; omega
theorem celL_all {ys : List Ce} {q : Nat} {l : List Sl} (h : ∀ s ∈ l, fitB (cel ys q s) = true) : celL ys q l = l.map (cel ys q) := by
  unfold celL
  rw [takeW (d := l.length)]
  · rw [List.take_of_length_le (by rw [List.length_map]; exact Nat.le_refl _)]
  · intro i hi a ha
    rw [List.getElem?_map] at ha
    obtain ⟨s, hs', rfl⟩ := Option.map_eq_some_iff.1 ha
    exact h s (List.mem_of_getElem? hs')
  · left
    rw [List.length_map]
    exact Nat.le_refl _
theorem celL_brk {ys : List Ce} {q j : Nat} {l : List Sl} (h : ∀ s ∈ l.take j, fitB (cel ys q s) = true) {s : Sl} (hs : l[j]? = some s) (hf : fitB (cel ys q s) = false) : celL ys q l = (l.take j).map (cel ys q) ∧ allF ys q l = false := by
  refine ⟨?_, ?_⟩
  · unfold celL
    rw [takeW (d := j), List.map_take]
    · intro i hi a ha
      rw [List.getElem?_map] at ha
      obtain ⟨s', hs', rfl⟩ := Option.map_eq_some_iff.1 ha
      exact h s' (List.mem_of_getElem? (i := i) (by rw [List.getElem?_take, if_pos hi]; exact hs'))
    · right
      exact ⟨_, by rw [List.getElem?_map, hs]; rfl, hf⟩
  · unfold allF
    rw [List.all_eq_false]
    exact ⟨s, List.mem_of_getElem? hs, by rw [hf]; decide⟩
theorem allF_yes {ys : List Ce} {q : Nat} {l : List Sl} (h : ∀ s ∈ l, fitB (cel ys q s) = true) : allF ys q l = true := by
  unfold allF
  rw [List.all_eq_true]
  exact h
end Go.Proofs.YteiiolilpemimaaDoor.Cn
