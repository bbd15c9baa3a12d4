import Derived.Test.YtndfhpfhgdamgaaGreatDoorGRvRep
namespace Go.Proofs.YtndfhpfhgdamgaaGreatDoor.Cn
open Go.RowKit
theorem tks_gone (gs : List Gt) (t : Int) (h : (gs.map fun g => g.tk).Pairwise (· < ·)) : ((gone gs t).map fun g => g.tk).Pairwise (· < ·) :=
  h.sublist ((List.filter_sublist).map _)
theorem tks_askd (gs : List Gt) (t now : Int) : (askd gs t now).map (fun g => g.tk) = gs.map fun g => g.tk := by
  unfold askd
  rw [List.map_map]
  refine List.map_congr_left fun g _ => ?_
  simp only [Function.comp]
  split <;> rfl
theorem tks_goG {gs : List Gt} (now : Int) (g : Gt) (h : (gs.map fun g => g.tk).Pairwise (· < ·)) : ((goG gs now g).map fun g => g.tk).Pairwise (· < ·) := by
  unfold goG
  split
  · exact tks_gone gs _ h
  · rw [tks_askd]; exact h
theorem tks_takeG {gs : List Gt} (now : Int) (m : Mg) (h : (gs.map fun g => g.tk).Pairwise (· < ·)) : ((takeG gs now m).map fun g => g.tk).Pairwise (· < ·) := by
  unfold takeG
  split
  · exact h
  · unfold hearG
    split
    · exact tks_gone gs _ h
    · split
      · exact tks_goG now _ h
      · exact h
theorem ends_two (k : Dk) (a b : List Oc) : k.ends (a ++ b) = (k.ends a).ends b := by
  induction a generalizing k with
  | nil => rfl
  | cons x r ih => exact ih _
theorem okEnds_two {k : Dk} {a b : List Oc} : okEnds k a → okEnds (k.ends a) b → okEnds k (a ++ b) := by
  induction a generalizing k with
  | nil => exact fun _ h => h
  | cons x r ih => exact fun h1 h2 => ⟨h1.1, ih h1.2 h2⟩
theorem okEnds_unw {k : Dk} {L : List Mg} : ∀ {E : List Oc}, okEnds (k.wnt L) E → okEnds k E
  | [], _ => trivial
  | o :: _, h => ⟨h.1, okEnds_unw (k := k.mark (o.tk - 1).toNat) (L := L) h.2⟩
theorem wnt_two (k : Dk) (a b : List Mg) : k.wnt (a ++ b) = (k.wnt a).wnt b := by simp [Dk.wnt]
/-- gets that go on, one behind the other -/
theorem Inv.all {gs : List Gt} {v : Rv} {k : Dk} (h : Inv gs v k) (hs : (gs.map fun g => g.tk).Pairwise (· < ·)) (now : Int) (d : Dt) (T : List Int) :
    Inv (tkAll now ⟨gs, d, [], []⟩ T).gs v ((k.wnt (tkAll now ⟨gs, d, [], []⟩ T).L).ends (tkAll now ⟨gs, d, [], []⟩ T).E) ∧ okEnds k (tkAll now ⟨gs, d, [], []⟩ T).E ∧ (∀ o ∈ (tkAll now ⟨gs, d, [], []⟩ T).E, lost o) ∧ ((tkAll now ⟨gs, d, [], []⟩ T).gs.map fun g => g.tk).Pairwise (· < ·) := by
  obtain ⟨n, hn⟩ : ∃ n, n = T.length := ⟨_, rfl⟩
  induction n generalizing T with
  | zero =>
    have : T = [] := List.eq_nil_of_length_eq_zero hn.symm
    subst this
    exact ⟨by rw [show (tkAll now ⟨gs, d, [], []⟩ []).L = [] from rfl, wnt_nil]; exact h, trivial, fun o ho => absurd ho (by show o ∉ []; simp), hs⟩
  | succ n ih =>
    have hne : T ≠ [] := fun e => by rw [e] at hn; simp at hn
    obtain ⟨T', t, rfl⟩ : ∃ T' t, T = T' ++ [t] := ⟨T.dropLast, T.getLast hne, (List.dropLast_concat_getLast hne).symm⟩
    obtain ⟨i1, i2, i3, i4⟩ := ih T' (by simp at hn; omega)
    rw [tkAll_snoc]
    generalize tkAll now ⟨gs, d, [], []⟩ T' = s at *
    unfold tkStep
    cases hf : findG s.gs t with
    | none => exact ⟨i1, i2, i3, i4⟩
    | some g =>
      obtain ⟨hg, ht⟩ := findG_mem hf
      obtain ⟨a, b, c⟩ := i1.goes i4 hg now
      refine ⟨?_, ?_, ?_, tks_goG now g i4⟩
      · show Inv (goG s.gs now g) v ((k.wnt (s.L ++ goM now g)).ends (s.E ++ goE g))
        rw [wnt_two, ends_two, ← ends_wnt]
        exact a
      · refine okEnds_two i2 (okEnds_unw (L := s.L) ?_)
        rw [ends_wnt]
        exact b
      · intro o ho
        rcases List.mem_append.1 ho with q | q
        · exact i3 o q
        · exact c o q
/-- gets that are opened -/
theorem opG_at (c : Cl) (v : Rv) : ∀ (ks : List ByteArray) (t : Int) (g : Gt), g ∈ opG c v ks t → ∃ (i : Nat) (hi : i < ks.length), g = ⟨t + (i : Int), ks[i], ordL v.d (baseOf c ks[i]), 1, v.now⟩
  | [], _, _, h => by simp [opG] at h
  | x :: r, t, g, h => by
    rcases List.mem_cons.1 h with rfl | h
    · exact ⟨0, by simp, by simp⟩
    · obtain ⟨i, hi, e⟩ := opG_at c v r (t + 1) g h
      refine ⟨i + 1, by simp; omega, ?_⟩
      rw [e]
      simp only [List.getElem_cons_succ]
      congr 1
      omega
theorem opG_has (c : Cl) (v : Rv) : ∀ (ks : List ByteArray) (t : Int) (i : Nat), i < ks.length → ∃ g ∈ opG c v ks t, g.tk = t + (i : Int)
  | [], _, _, h => by simp at h
  | x :: r, t, 0, _ => ⟨_, List.mem_cons_self, by simp⟩
  | x :: r, t, i + 1, h => by
    obtain ⟨g, hg, e⟩ := opG_has c v r (t + 1) i (by simpa using h)
    exact ⟨g, List.mem_cons_of_mem _ hg, by rw [e]; omega⟩
theorem Inv.opened {gs : List Gt} {v : Rv} {k : Dk} (h : Inv gs v k) (c : Cl) (ks : List ByteArray) : Inv (gs ++ opG c v ks (v.last + 1)) { v with last := v.last + (ks.length : Int) } ((k.opn ks).wnt ((opG c v ks (v.last + 1)).map getMg)) := by
  have hl := h.last
  have hd := h.dl
  refine ⟨?_, ?_, fun g hg => ?_, fun i hi => ?_, fun g hg q hq => ?_⟩
  · show v.last + (ks.length : Int) = ((k.keys ++ ks).length : Int)
    rw [List.length_append]; omega
  · show (k.done ++ List.replicate ks.length false).length = (k.keys ++ ks).length
    rw [List.length_append, List.length_append, List.length_replicate]; omega
  · show 1 ≤ g.tk ∧ g.tk ≤ ((k.keys ++ ks).length : Int) ∧ (k.done ++ List.replicate ks.length false)[(g.tk - 1).toNat]? = some false ∧ (k.keys ++ ks)[(g.tk - 1).toNat]? = some g.key
    rw [List.length_append]
    rcases List.mem_append.1 hg with hg | hg
    · obtain ⟨a, b, e1, e2⟩ := h.opn g hg
      refine ⟨a, by omega, ?_, ?_⟩
      · rw [List.getElem?_append_left (by omega)]; exact e1
      · rw [List.getElem?_append_left (by omega)]; exact e2
    · obtain ⟨i, hi, rfl⟩ := opG_at c v ks _ g hg
      have e : (v.last + 1 + (i : Int) - 1).toNat = k.keys.length + i := by omega
      refine ⟨by show 1 ≤ v.last + 1 + (i : Int); omega, by show v.last + 1 + (i : Int) ≤ _; omega, ?_, ?_⟩
      · show (k.done ++ List.replicate ks.length false)[(v.last + 1 + (i : Int) - 1).toNat]? = some false
        rw [e, List.getElem?_append_right (by omega), List.getElem?_replicate, if_pos (by omega)]
      · show (k.keys ++ ks)[(v.last + 1 + (i : Int) - 1).toNat]? = some ks[i]
        rw [e, List.getElem?_append_right (by omega), show k.keys.length + i - k.keys.length = i by omega, List.getElem?_eq_getElem hi]
  · replace hi : (k.done ++ List.replicate ks.length false)[i]? = some false := hi
    by_cases e : i < k.done.length
    · rw [List.getElem?_append_left e] at hi
      obtain ⟨g, hg, r⟩ := h.cls i hi
      exact ⟨g, List.mem_append_left _ hg, r⟩
    · rw [List.getElem?_append_right (by omega), List.getElem?_replicate] at hi
      have hi' : i - k.done.length < ks.length := by
        by_cases q : i - k.done.length < ks.length
        · exact q
        · rw [if_neg q] at hi; simp at hi
      obtain ⟨g, hg, r⟩ := opG_has c v ks (v.last + 1) _ hi'
      exact ⟨g, List.mem_append_right _ hg, by rw [r]; omega⟩
  · show ∃ x ∈ k.went ++ (opG c v ks (v.last + 1)).map getMg, _
    rcases List.mem_append.1 hg with hg | hg
    · obtain ⟨x, hx, r⟩ := h.snt g hg q hq
      exact ⟨x, List.mem_append_left _ hx, r⟩
    · obtain ⟨i, hi, rfl⟩ := opG_at c v ks _ g hg
      have q0 : q = 0 := by
        have : q < 1 := hq
        omega
      subst q0
      exact ⟨_, List.mem_append_right _ (List.mem_map.2 ⟨_, hg, rfl⟩), rfl, rfl, rfl, rfl⟩
end Go.Proofs.YtndfhpfhgdamgaaGreatDoor.Cn
namespace Go.Proofs.YtndfhpfhgdamgaaGreatDoor.Cn
open Go.RowKit
/-- what Ok says of the gets -/
structure GsOk (c : Cl) (gs : List Gt) (now last : Int) : Prop where
  tks : ∀ g ∈ gs, 1 ≤ g.tk ∧ g.tk ≤ last
  srt : (gs.map fun g => g.tk).Pairwise (· < ·)
  ask : ∀ g ∈ gs, 1 ≤ g.asked ∧ g.asked ≤ g.ow.length ∧ (g.ow.length : Int) = c.x 0
  own : ∀ g ∈ gs, (∀ k ∈ g.ow, 0 ≤ k ∧ k < (c.ns.length : Int)) ∧ g.ow.Nodup
  sin : ∀ g ∈ gs, 0 ≤ g.since ∧ g.since ≤ now
  len : gs.length ≤ 64
theorem Ok.gs {c : Cl} {gs : List Gt} {v : Rv} {m : Nat} (h : Ok c gs v m) : GsOk c gs v.now v.last := ⟨h.tks, h.srt, h.ask, h.own, h.sin, h.len⟩
theorem GsOk.later {c : Cl} {gs : List Gt} {now now' last last' : Int} (h : GsOk c gs now last) (h1 : now ≤ now') (h2 : last ≤ last') : GsOk c gs now' last' :=
  ⟨fun g hg => by have := h.tks g hg; omega, h.srt, h.ask, h.own, fun g hg => by have := h.sin g hg; omega, h.len⟩
theorem GsOk.fin {c : Cl} {gs : List Gt} {now last : Int} (h : GsOk c gs now last) (t : Int) : GsOk c (gone gs t) now last := by
  have hm : ∀ g, g ∈ gone gs t → g ∈ gs := fun g hg => (List.mem_filter.1 hg).1
  refine ⟨fun g hg => h.tks g (hm g hg), tks_gone gs t h.srt, fun g hg => h.ask g (hm g hg), fun g hg => h.own g (hm g hg), fun g hg => h.sin g (hm g hg), ?_⟩
  exact Nat.le_trans (List.length_filter_le _ _) h.len
theorem askd_mem {gs : List Gt} (hs : (gs.map fun g => g.tk).Pairwise (· < ·)) {g : Gt} (hg : g ∈ gs) {now : Int} {g' : Gt} (h : g' ∈ askd gs g.tk now) : g' ∈ gs ∨ g' = askG now g := by
  obtain ⟨g0, m1, m2⟩ := List.mem_map.1 h
  by_cases e : g0.tk = g.tk
  · have e2 : g0 = g := by
      have f1 := findG_of hs m1
      have f2 := findG_of hs hg
      rw [e, f2] at f1
      exact (Option.some.inj f1).symm
    rw [if_pos e] at m2
    exact Or.inr (by rw [← m2, e2])
  · rw [if_neg e] at m2
    exact Or.inl (by rw [← m2]; exact m1)
theorem GsOk.goes {c : Cl} {gs : List Gt} {now last : Int} (h : GsOk c gs now last) (h0 : 0 ≤ now) {g : Gt} (hg : g ∈ gs) : GsOk c (goG gs now g) now last := by
  unfold goG
  by_cases e : g.asked = g.ow.length
  · rw [if_pos e]
    exact h.fin _
  · rw [if_neg e]
    have ha := h.ask g hg
    refine ⟨fun g' hg' => ?_, by rw [tks_askd]; exact h.srt, fun g' hg' => ?_, fun g' hg' => ?_, fun g' hg' => ?_, by unfold askd; rw [List.length_map]; exact h.len⟩
    · rcases askd_mem h.srt hg hg' with q | rfl
      · exact h.tks g' q
      · exact h.tks g hg
    · rcases askd_mem h.srt hg hg' with q | rfl
      · exact h.ask g' q
      · exact ⟨Nat.le_add_left _ _, by show g.asked + 1 ≤ g.ow.length; omega, ha.2.2⟩
    · rcases askd_mem h.srt hg hg' with q | rfl
      · exact h.own g' q
      · exact h.own g hg
    · rcases askd_mem h.srt hg hg' with q | rfl
      · exact h.sin g' q
      · exact ⟨h0, Int.le_refl _⟩
theorem GsOk.take {c : Cl} {gs : List Gt} {now last : Int} (h : GsOk c gs now last) (h0 : 0 ≤ now) (m : Mg) : GsOk c (takeG gs now m) now last := by
  unfold takeG
  cases hA : ansG gs m with
  | none => exact h
  | some g =>
    have hg := (ansG_mem hA).1
    simp only [hearG]
    split
    · exact h.fin _
    · split
      · exact h.goes h0 hg
      · exact h
theorem GsOk.all {c : Cl} {gs : List Gt} {now last : Int} (h : GsOk c gs now last) (h0 : 0 ≤ now) (d : Dt) (T : List Int) : GsOk c (tkAll now ⟨gs, d, [], []⟩ T).gs now last := by
  have key : ∀ (T : List Int) (s : Tk), GsOk c s.gs now last → GsOk c (tkAll now s T).gs now last := by
    intro T
    induction T with
    | nil => exact fun s h => h
    | cons t r ih =>
      intro s hs
      refine ih (tkStep now s t) ?_
      unfold tkStep
      cases hf : findG s.gs t with
      | none => exact hs
      | some g => exact hs.goes h0 (findG_mem hf).1
  exact key T _ h
theorem Ok.of {c : Cl} {gs gs' : List Gt} {v v' : Rv} {m m' : Nat} (h : Ok c gs v m) (hg : GsOk c gs' v'.now v'.last) (h1 : v'.d.upto m') (h2 : v'.d.enb) (h3 : v'.d.n = v.d.n) (h4 : 0 ≤ v'.now) (h5 : 0 ≤ v'.last) : Ok c gs' v' m' :=
  ⟨h.err, h.st, h1, h2, h3.trans h.dn, h4, h5, hg.tks, hg.srt, hg.ask, hg.own, hg.sin, hg.len⟩
theorem enb_good {d : Dt} (h : d.enb) (hf : d.fits) (k : Int) : (d.good k).enb := fun j => by
  show upd d.en k 0 j ≤ d.now + d.ban
  unfold upd
  split
  · have := hf.t0
    have := hf.b1
    omega
  · exact h j
/-- a take keeps it -/
theorem Ok.take {c : Cl} {gs : List Gt} {v : Rv} {m : Nat} (h : Ok c gs v m) (x : Mg) : Ok c (takeG gs v.now x) { v with d := v.d.good x.fr } m :=
  h.of (h.gs.take h.now0 x) (h.up.good _) (enb_good h.enb h.up.ft _) rfl h.now0 h.last0
/-- a tick keeps it -/
theorem due_len (now wait : Int) (gs : List Gt) : (dueT now wait gs).length ≤ gs.length := by
  unfold dueT
  rw [List.length_map]
  exact List.length_filter_le _ _
theorem Ok.tick {c : Cl} {gs : List Gt} {v : Rv} {m : Nat} (h : Ok c gs v m) : Ok c (tickK c gs v).gs ⟨(tickK c gs v).d, v.now + 1, v.last⟩ (m + 65) := by
  have hn := h.now0
  have hl := h.len
  have hd := due_len (v.now + 1) (c.x 17) gs
  have a1 := all_upto (s := ⟨gs, v.d.tick, [], []⟩) (now := v.now + 1) (dueT (v.now + 1) (c.x 17) gs) (upto_tick h.up)
  have a2 := all_enb (s := ⟨gs, v.d.tick, [], []⟩) (now := v.now + 1) (dueT (v.now + 1) (c.x 17) gs) (upto_tick h.up).ft (enb_tick h.enb)
  have a3 := (all_len (s := ⟨gs, v.d.tick, [], []⟩) (now := v.now + 1) (dueT (v.now + 1) (c.x 17) gs)).2.2.2
  refine h.of ?_ (a1.mono (by omega)) a2.1 a3 (by show 0 ≤ v.now + 1; omega) h.last0
  exact (h.gs.later (by show v.now ≤ v.now + 1; omega) (Int.le_refl _)).all (by omega) _ _
theorem opG_srt (c : Cl) (v : Rv) : ∀ (ks : List ByteArray) (t : Int), ((opG c v ks t).map fun g => g.tk).Pairwise (· < ·)
  | [], _ => List.Pairwise.nil
  | x :: r, t => by
    refine List.Pairwise.cons (fun y hy => ?_) (opG_srt c v r (t + 1))
    obtain ⟨g, hg, rfl⟩ := List.mem_map.1 hy
    obtain ⟨i, hi, rfl⟩ := opG_at c v r _ g hg
    show t < t + 1 + (i : Int)
    omega
/-- an opening keeps it -/
theorem Ok.opened {c : Cl} {gs : List Gt} {v : Rv} {m : Nat} (h : Ok c gs v m) (ks : List ByteArray) (hl : gs.length + ks.length ≤ 64) : Ok c (gs ++ opG c v ks (v.last + 1)) { v with last := v.last + (ks.length : Int) } m := by
  have hl0 := h.last0
  have ho : ∀ g ∈ opG c v ks (v.last + 1), v.last + 1 ≤ g.tk ∧ g.tk ≤ v.last + (ks.length : Int) ∧ g.asked = 1 ∧ g.since = v.now ∧ ∃ key, g.ow = ordL v.d (baseOf c key) := fun g hg => by
    obtain ⟨i, hi, rfl⟩ := opG_at c v ks _ g hg
    exact ⟨by show v.last + 1 ≤ v.last + 1 + (i : Int); omega, by show v.last + 1 + (i : Int) ≤ _; omega, rfl, rfl, _, rfl⟩
  have hx : 1 ≤ c.x 0 ∧ c.x 0 ≤ 16 := sfP_lim (errP_all h.err).2.1 0 (by omega)
  refine h.of ⟨fun g hg => ?_, ?_, fun g hg => ?_, fun g hg => ?_, fun g hg => ?_, ?_⟩ h.up h.enb rfl h.now0 (by show 0 ≤ v.last + (ks.length : Int); omega)
  · show 1 ≤ g.tk ∧ g.tk ≤ v.last + (ks.length : Int)
    rcases List.mem_append.1 hg with q | q
    · have := h.tks g q; omega
    · have := ho g q; omega
  · rw [List.map_append]
    refine List.pairwise_append.2 ⟨h.srt, opG_srt c v ks _, fun a ha b hb => ?_⟩
    obtain ⟨g, hg, rfl⟩ := List.mem_map.1 ha
    obtain ⟨g', hg', rfl⟩ := List.mem_map.1 hb
    have := h.tks g hg
    have := ho g' hg'
    omega
  · rcases List.mem_append.1 hg with q | q
    · exact h.ask g q
    · obtain ⟨_, _, e, _, key, ek⟩ := ho g q
      have := (ord_ok h.err h.up.ft h.enb key).1
      rw [← ek] at this
      refine ⟨by omega, by omega, this⟩
  · rcases List.mem_append.1 hg with q | q
    · exact h.own g q
    · obtain ⟨_, _, e, _, key, ek⟩ := ho g q
      rw [ek]
      exact (ord_ok h.err h.up.ft h.enb key).2
  · rcases List.mem_append.1 hg with q | q
    · exact h.sin g q
    · obtain ⟨_, _, _, e, _⟩ := ho g q
      rw [e]
      exact ⟨h.now0, Int.le_refl _⟩
  · rw [List.length_append, opG_len]
    exact hl
end Go.Proofs.YtndfhpfhgdamgaaGreatDoor.Cn
namespace Go.Proofs.YtndfhpfhgdamgaaGreatDoor.Cn
open Go.RowKit
/-- every get was asked less than wt ticks ago -/
def Fr (wt now : Int) (gs : List Gt) : Prop := ∀ g ∈ gs, now < g.since + wt
/-- in M ticks every get has ended -/
def Lm (wt now M : Int) (gs : List Gt) : Prop := ∀ g ∈ gs, g.since + wt * ((g.ow.length : Int) - (g.asked : Int) + 1) ≤ now + M
theorem goG_mem {gs : List Gt} (hs : (gs.map fun g => g.tk).Pairwise (· < ·)) {g : Gt} (hg : g ∈ gs) {now : Int} {g' : Gt} (h : g' ∈ goG gs now g) : (g' ∈ gs ∧ g'.tk ≠ g.tk) ∨ (g' = askG now g ∧ g.asked ≠ g.ow.length) := by
  unfold goG at h
  by_cases e : g.asked = g.ow.length
  · rw [if_pos e] at h
    have := List.mem_filter.1 h
    exact Or.inl ⟨this.1, by simpa using this.2⟩
  · rw [if_neg e] at h
    obtain ⟨g0, m1, m2⟩ := List.mem_map.1 h
    by_cases e1 : g0.tk = g.tk
    · have e2 : g0 = g := by
        have f1 := findG_of hs m1
        have f2 := findG_of hs hg
        rw [e1, f2] at f1
        exact (Option.some.inj f1).symm
      rw [if_pos e1] at m2
      exact Or.inr ⟨by rw [← m2, e2], e⟩
    · rw [if_neg e1] at m2
      exact Or.inl (by rw [← m2]; exact ⟨m1, e1⟩)
theorem step_mem {s : Tk} (hs : (s.gs.map fun g => g.tk).Pairwise (· < ·)) {now t : Int} {g' : Gt} (h : g' ∈ (tkStep now s t).gs) : (g' ∈ s.gs ∧ g'.tk ≠ t) ∨ ∃ g ∈ s.gs, g.tk = t ∧ g' = askG now g ∧ g.asked ≠ g.ow.length := by
  unfold tkStep at h
  cases hf : findG s.gs t with
  | none =>
    rw [hf] at h
    refine Or.inl ⟨h, fun e => ?_⟩
    have := findG_of hs (g := g') h
    rw [e, hf] at this
    cases this
  | some g =>
    rw [hf] at h
    obtain ⟨hg, ht⟩ := findG_mem hf
    rcases goG_mem hs hg h with q | q
    · exact Or.inl ⟨q.1, by rw [← ht]; exact q.2⟩
    · exact Or.inr ⟨g, hg, ht, q⟩
theorem step_srt {s : Tk} (hs : (s.gs.map fun g => g.tk).Pairwise (· < ·)) (now t : Int) : ((tkStep now s t).gs.map fun g => g.tk).Pairwise (· < ·) := by
  unfold tkStep
  split
  · exact hs
  · exact tks_goG now _ hs
theorem all_mem (now : Int) : ∀ (T : List Int) (s : Tk), T.Nodup → (s.gs.map fun g => g.tk).Pairwise (· < ·) → ∀ g' ∈ (tkAll now s T).gs, (g' ∈ s.gs ∧ g'.tk ∉ T) ∨ ∃ g ∈ s.gs, g.tk ∈ T ∧ g' = askG now g ∧ g.asked ≠ g.ow.length
  | [], s, _, _, g', h => Or.inl ⟨h, by simp⟩
  | t :: r, s, hn, hs, g', h => by
    rw [List.nodup_cons] at hn
    rcases all_mem now r (tkStep now s t) hn.2 (step_srt hs now t) g' h with ⟨q1, q2⟩ | ⟨g, q1, q2, q3⟩
    · rcases step_mem hs q1 with ⟨p1, p2⟩ | ⟨g, p1, p2, p3⟩
      · exact Or.inl ⟨p1, by rw [List.mem_cons, not_or]; exact ⟨p2, q2⟩⟩
      · exact Or.inr ⟨g, p1, by rw [p2]; exact List.mem_cons_self, p3⟩
    · rcases step_mem hs q1 with ⟨p1, p2⟩ | ⟨g2, p1, p2, p3, _⟩
      · exact Or.inr ⟨g, p1, List.mem_cons_of_mem _ q2, q3⟩
      · have e : g.tk = t := by rw [p3]; exact p2
        rw [e] at q2
        exact absurd q2 hn.1
theorem due_nodup (now wt : Int) {gs : List Gt} (hs : (gs.map fun g => g.tk).Pairwise (· < ·)) : (dueT now wt gs).Nodup := by
  have h : (dueT now wt gs).Pairwise (· < ·) := hs.sublist ((List.filter_sublist).map _)
  rw [List.nodup_iff_pairwise_ne]
  exact h.imp fun h => by omega
theorem tick_mem {c : Cl} {gs : List Gt} {v : Rv} (hs : (gs.map fun g => g.tk).Pairwise (· < ·)) {g' : Gt} (h : g' ∈ (tickK c gs v).gs) : (g' ∈ gs ∧ v.now + 1 - g'.since ≠ c.x 17) ∨ ∃ g ∈ gs, v.now + 1 - g.since = c.x 17 ∧ g' = askG (v.now + 1) g ∧ g.asked ≠ g.ow.length := by
  rcases all_mem (v.now + 1) _ ⟨gs, v.d.tick, [], []⟩ (due_nodup (v.now + 1) (c.x 17) hs) hs g' h with ⟨q1, q2⟩ | ⟨g, q1, q2, q3⟩
  · refine Or.inl ⟨q1, fun e => q2 ?_⟩
    exact List.mem_map.2 ⟨g', List.mem_filter.2 ⟨q1, decide_eq_true e⟩, rfl⟩
  · refine Or.inr ⟨g, q1, ?_, q3⟩
    obtain ⟨g2, m1, m2⟩ := List.mem_map.1 q2
    obtain ⟨m3, m4⟩ := List.mem_filter.1 m1
    have e : g2 = g := by
      have f1 := findG_of hs m3
      have f2 := findG_of hs q1
      rw [show g2.tk = g.tk from m2, f2] at f1
      exact (Option.some.inj f1).symm
    rw [← e]
    exact of_decide_eq_true m4
theorem Fr.tick {c : Cl} {gs : List Gt} {v : Rv} (h : Fr (c.x 17) v.now gs) (hs : (gs.map fun g => g.tk).Pairwise (· < ·)) (h1 : 1 ≤ c.x 17) : Fr (c.x 17) (v.now + 1) (tickK c gs v).gs := fun g' hg => by
  rcases tick_mem hs hg with ⟨q1, q2⟩ | ⟨g, q1, q2, q3, q4⟩
  · have := h g' q1
    omega
  · rw [q3]
    show v.now + 1 < v.now + 1 + c.x 17
    omega
theorem Lm.tick {c : Cl} {gs : List Gt} {v : Rv} {M : Int} (h : Lm (c.x 17) v.now M gs) (hs : (gs.map fun g => g.tk).Pairwise (· < ·)) : Lm (c.x 17) (v.now + 1) (M - 1) (tickK c gs v).gs := fun g' hg => by
  rcases tick_mem hs hg with ⟨q1, q2⟩ | ⟨g, q1, q2, q3, q4⟩
  · have := h g' q1
    omega
  · have := h g q1
    rw [q3]
    show v.now + 1 + c.x 17 * ((g.ow.length : Int) - ((g.asked + 1 : Nat) : Int) + 1) ≤ v.now + 1 + (M - 1)
    rw [show (g.ow.length : Int) - ((g.asked + 1 : Nat) : Int) + 1 = (g.ow.length : Int) - (g.asked : Int) by omega]
    rw [Int.mul_add, Int.mul_one] at this
    omega
theorem Lm.none {c : Cl} {gs : List Gt} {v : Rv} {m : Nat} (h : Lm (c.x 17) v.now 0 gs) (hf : Fr (c.x 17) v.now gs) (ok : Ok c gs v m) (h1 : 1 ≤ c.x 17) : gs = [] := by
  cases gs with
  | nil => rfl
  | cons g r =>
    have a := h g List.mem_cons_self
    have b := hf g List.mem_cons_self
    have e := ok.ask g List.mem_cons_self
    have : c.x 17 * 1 ≤ c.x 17 * ((g.ow.length : Int) - (g.asked : Int) + 1) := Int.mul_le_mul_of_nonneg_left (by omega) (by omega)
    omega
theorem Lm.start {c : Cl} {gs : List Gt} {v : Rv} {m : Nat} (ok : Ok c gs v m) (h1 : 1 ≤ c.x 17) : Lm (c.x 17) v.now (c.x 0 * c.x 17) gs := fun g hg => by
  have e := ok.ask g hg
  have s := ok.sin g hg
  have : c.x 17 * ((g.ow.length : Int) - (g.asked : Int) + 1) ≤ c.x 17 * (c.x 0) := Int.mul_le_mul_of_nonneg_left (by omega) (by omega)
  rw [Int.mul_comm (c.x 0)]
  omega
theorem Fr.goes {wt : Int} {gs : List Gt} {now : Int} (h : Fr wt now gs) (hs : (gs.map fun g => g.tk).Pairwise (· < ·)) (h1 : 1 ≤ wt) {g : Gt} (hg : g ∈ gs) : Fr wt now (goG gs now g) := fun g' h' => by
  rcases goG_mem hs hg h' with q | q
  · exact h g' q.1
  · rw [q.1]
    show now < now + wt
    omega
theorem Fr.fin {wt : Int} {gs : List Gt} {now : Int} (h : Fr wt now gs) (t : Int) : Fr wt now (gone gs t) := fun g hg => h g (List.mem_filter.1 hg).1
theorem Fr.take {wt : Int} {gs : List Gt} {now : Int} (h : Fr wt now gs) (hs : (gs.map fun g => g.tk).Pairwise (· < ·)) (h1 : 1 ≤ wt) (m : Mg) : Fr wt now (takeG gs now m) := by
  unfold takeG
  cases hA : ansG gs m with
  | none => exact h
  | some g =>
    have hg := (ansG_mem hA).1
    simp only [hearG]
    split
    · exact h.fin _
    · split
      · exact h.goes hs h1 hg
      · exact h
theorem Fr.opened {c : Cl} {gs : List Gt} {v : Rv} (h : Fr (c.x 17) v.now gs) (h1 : 1 ≤ c.x 17) (ks : List ByteArray) (t : Int) : Fr (c.x 17) v.now (gs ++ opG c v ks t) := fun g hg => by
  rcases List.mem_append.1 hg with q | q
  · exact h g q
  · obtain ⟨i, hi, rfl⟩ := opG_at c v ks _ g q
    show v.now < v.now + c.x 17
    omega
theorem Ok.wt {c : Cl} {gs : List Gt} {v : Rv} {m : Nat} (ok : Ok c gs v m) : 1 ≤ c.x 17 ∧ c.x 17 ≤ 1024 := sfP_lim (errP_all ok.err).2.1 17 (by omega)
end Go.Proofs.YtndfhpfhgdamgaaGreatDoor.Cn
namespace Go.Proofs.YtndfhpfhgdamgaaGreatDoor.Cn
open Go.RowKit
/-- what holds of router and desk behind n steps -/
structure Pu (c : Cl) (gs : List Gt) (v : Rv) (k : Dk) (n : Nat) : Prop where
  ok : Ok c gs v (65 * n)
  inv : Inv gs v k
  now : v.now ≤ (n : Int)
  kl : k.keys.length ≤ 64 * n
  wl : k.went.length ≤ 100 * n
  wid : ∀ x ∈ k.went, 0 ≤ x.id ∧ x.id ≤ 64 * (n : Int)
  fr : Fr (c.x 17) v.now gs
theorem Ok.more {c : Cl} {gs : List Gt} {v : Rv} {m m' : Nat} (h : Ok c gs v m) (hm : m ≤ m') : Ok c gs v m' := h.of h.gs (h.up.mono hm) h.enb rfl h.now0 h.last0
theorem Pu.same {c : Cl} {gs : List Gt} {v : Rv} {k : Dk} {n : Nat} (h : Pu c gs v k n) : Pu c gs v k (n + 1) :=
  ⟨h.ok.more (by omega), h.inv, by have := h.now; omega, by have := h.kl; omega, by have := h.wl; omega, fun x hx => by have := h.wid x hx; omega, h.fr⟩
theorem ends_kw : ∀ (E : List Oc) (k : Dk), (k.ends E).keys = k.keys ∧ (k.ends E).went = k.went
  | [], _ => ⟨rfl, rfl⟩
  | o :: r, k => ends_kw r (k.mark (o.tk - 1).toNat)
theorem goM_id {now : Int} {g : Gt} {x : Mg} (h : x ∈ goM now g) : x.id = g.tk := by
  unfold goM at h
  split at h
  · simp at h
  · rw [List.mem_singleton.1 h]; rfl
theorem takeM_id {gs : List Gt} {now : Int} {m x : Mg} (h : x ∈ takeM gs now m) : ∃ g ∈ gs, x.id = g.tk := by
  unfold takeM at h
  cases hA : ansG gs m with
  | none => rw [hA] at h; simp at h
  | some g =>
    rw [hA] at h
    simp only [hearM] at h
    split at h
    · simp at h
    · split at h
      · exact ⟨g, (ansG_mem hA).1, goM_id h⟩
      · simp at h
theorem takeM_len (gs : List Gt) (now : Int) (m : Mg) : (takeM gs now m).length ≤ 1 := by
  unfold takeM
  split
  · simp
  · unfold hearM
    split
    · simp
    · split
      · exact goM_len _ _
      · simp
theorem takeO_len (gs : List Gt) (m : Mg) : (takeO gs m).length ≤ 1 := by
  unfold takeO
  split
  · simp
  · unfold hearE
    split
    · simp
    · split
      · simp
      · split
        · exact goE_len _
        · simp
theorem Pu.take {c : Cl} {gs : List Gt} {v : Rv} {k : Dk} {n : Nat} (h : Pu c gs v k n) (x : Mg) : Pu c (takeG gs v.now x) { v with d := v.d.good x.fr } ((k.ends (takeO gs x)).wnt (takeM gs v.now x)) (n + 1) := by
  obtain ⟨i1, _, _⟩ := h.inv.take h.ok.srt v.now x
  have e := ends_kw (takeO gs x) k
  have hk := h.kl
  have hw := h.wl
  have hn := h.now
  have hl := h.inv.last
  refine ⟨(h.ok.take x).more (by omega), i1.d _ rfl, by show v.now ≤ _; omega, ?_, ?_, fun y hy => ?_, h.fr.take h.ok.srt h.ok.wt.1 x⟩
  · show (k.ends (takeO gs x)).keys.length ≤ _
    rw [e.1]; omega
  · show ((k.ends (takeO gs x)).went ++ takeM gs v.now x).length ≤ _
    have := takeM_len gs v.now x
    rw [List.length_append, e.2]; omega
  · replace hy : y ∈ (k.ends (takeO gs x)).went ++ takeM gs v.now x := hy
    rw [e.2] at hy
    rcases List.mem_append.1 hy with q | q
    · have := h.wid y q; omega
    · obtain ⟨g, hg, r⟩ := takeM_id q
      have := h.ok.tks g hg
      omega
theorem all_id (now : Int) {lo hi : Int} : ∀ (T : List Int) (s : Tk), (∀ g ∈ s.gs, lo ≤ g.tk ∧ g.tk ≤ hi) → (∀ x ∈ s.L, lo ≤ x.id ∧ x.id ≤ hi) → ∀ x ∈ (tkAll now s T).L, lo ≤ x.id ∧ x.id ≤ hi
  | [], _, _, h2 => h2
  | t :: r, s, h1, h2 => by
    refine all_id now r (tkStep now s t) ?_ ?_
    · unfold tkStep
      cases hf : findG s.gs t with
      | none => exact h1
      | some g =>
        intro g' hg'
        replace hg' : g' ∈ goG s.gs now g := hg'
        unfold goG at hg'
        split at hg'
        · exact h1 g' (List.mem_filter.1 hg').1
        · obtain ⟨g0, m1, m2⟩ := List.mem_map.1 hg'
          have : g'.tk = g0.tk := by rw [← m2]; split <;> rfl
          rw [this]
          exact h1 g0 m1
    · unfold tkStep
      cases hf : findG s.gs t with
      | none => exact h2
      | some g =>
        intro x hx
        rcases List.mem_append.1 hx with q | q
        · exact h2 x q
        · rw [goM_id q]
          exact h1 g (findG_mem hf).1
theorem pingL_len (v : Rv) (wait : Int) (n : Nat) : (pingL v wait n).length ≤ n := by
  unfold pingL
  split
  · exact pings_len _ _ _
  · simp
theorem pingL_id {v : Rv} {wait : Int} {n : Nat} {x : Mg} (h : x ∈ pingL v wait n) : x.id = v.now := by
  unfold pingL at h
  split at h
  · unfold pings at h
    obtain ⟨q, _, e⟩ := List.mem_map.1 h
    rw [← e]; rfl
  · simp at h
noncomputable def tickL (c : Cl) (gs : List Gt) (v : Rv) : List Mg := (tickK c gs v).L ++ pingL ⟨(tickK c gs v).d, v.now + 1, v.last⟩ (c.x 17) c.ns.length
theorem Pu.tick {c : Cl} {gs : List Gt} {v : Rv} {k : Dk} {n : Nat} (h : Pu c gs v k n) : Pu c (tickK c gs v).gs ⟨(tickK c gs v).d, v.now + 1, v.last⟩ ((k.wnt (tickL c gs v)).ends (tickK c gs v).E) (n + 1) ∧ okEnds k (tickK c gs v).E ∧ (∀ o ∈ (tickK c gs v).E, lost o) ∧ (tickL c gs v).length ≤ 80 ∧ (tickK c gs v).E.length ≤ 64 := by
  obtain ⟨i1, i2, i3, _⟩ := h.inv.all h.ok.srt (v.now + 1) v.d.tick (dueT (v.now + 1) (c.x 17) gs)
  have e := ends_kw (tickK c gs v).E (k.wnt (tickL c gs v))
  have hk := h.kl
  have hw := h.wl
  have hn := h.now
  have hn0 := h.ok.now0
  have hl := h.inv.last
  have hgl := h.ok.len
  have hd := due_len (v.now + 1) (c.x 17) gs
  have al := all_len (s := ⟨gs, v.d.tick, [], []⟩) (now := v.now + 1) (dueT (v.now + 1) (c.x 17) gs)
  have pl := pingL_len ⟨(tickK c gs v).d, v.now + 1, v.last⟩ (c.x 17) c.ns.length
  have h16 : c.ns.length ≤ 16 := by rw [← h.ok.dn]; exact h.ok.up.ft.n16
  have hL : (tickL c gs v).length ≤ 80 := by
    have := al.1
    unfold tickL tickK at *
    rw [List.length_append]
    simp only [List.length_nil] at this
    omega
  have hE : (tickK c gs v).E.length ≤ 64 := by
    have := al.2.1
    unfold tickK
    simp only [List.length_nil] at this
    omega
  refine ⟨⟨h.ok.tick.more (by omega), ?_, by show v.now + 1 ≤ _; omega, ?_, ?_, fun y hy => ?_, h.fr.tick h.ok.srt h.ok.wt.1⟩, i2, i3, hL, hE⟩
  · unfold tickL
    rw [wnt_two, ← ends_wnt]
    exact (i1.wnt _).d _ rfl
  · rw [e.1]
    show k.keys.length ≤ _
    omega
  · rw [e.2]
    show (k.went ++ tickL c gs v).length ≤ _
    rw [List.length_append]
    omega
  · rw [e.2] at hy
    replace hy : y ∈ k.went ++ tickL c gs v := hy
    rcases List.mem_append.1 hy with q | q
    · have := h.wid y q; omega
    · unfold tickL at q
      rcases List.mem_append.1 q with q | q
      · have := all_id (v.now + 1) (lo := 1) (hi := v.last) (dueT (v.now + 1) (c.x 17) gs) ⟨gs, v.d.tick, [], []⟩ h.ok.tks (fun x hx => absurd hx (by simp)) y q
        omega
      · have := pingL_id q
        simp only at this
        omega
theorem Pu.opened {c : Cl} {gs : List Gt} {v : Rv} {k : Dk} {n : Nat} (h : Pu c gs v k n) (ks : List ByteArray) (hl : gs.length + ks.length ≤ 64) : Pu c (gs ++ opG c v ks (v.last + 1)) { v with last := v.last + (ks.length : Int) } ((k.opn ks).wnt ((opG c v ks (v.last + 1)).map getMg)) (n + 1) := by
  have hk := h.kl
  have hw := h.wl
  have hn := h.now
  have hla := h.inv.last
  refine ⟨(h.ok.opened ks hl).more (by omega), h.inv.opened c ks, by show v.now ≤ _; omega, ?_, ?_, fun y hy => ?_, h.fr.opened h.ok.wt.1 ks _⟩
  · show (k.keys ++ ks).length ≤ _
    rw [List.length_append]; omega
  · show (k.went ++ (opG c v ks (v.last + 1)).map getMg).length ≤ _
    rw [List.length_append, List.length_map, opG_len]; omega
  · replace hy : y ∈ k.went ++ (opG c v ks (v.last + 1)).map getMg := hy
    rcases List.mem_append.1 hy with q | q
    · have := h.wid y q; omega
    · obtain ⟨g, hg, r⟩ := List.mem_map.1 q
      obtain ⟨i, hi, rfl⟩ := opG_at c v ks _ g hg
      have e : y.id = v.last + 1 + (i : Int) := by rw [← r]; rfl
      omega
end Go.Proofs.YtndfhpfhgdamgaaGreatDoor.Cn
namespace Go.Proofs.YtndfhpfhgdamgaaGreatDoor.Cn
open Go.RowKit
theorem mayE_len {n : Nat} {ks : List ByteArray} (h : mayE n ks = 0) : n + ks.length ≤ 64 := by
  unfold mayE at h
  split at h
  · simp at h
  · split at h
    · simp at h
    · omega
theorem opG_get (c : Cl) (v : Rv) : ∀ (ks : List ByteArray) (t : Int) (i : Nat) (hi : i < ks.length) (h : i < (opG c v ks t).length), (opG c v ks t)[i] = ⟨t + (i : Int), ks[i], ordL v.d (baseOf c ks[i]), 1, v.now⟩
  | [], _, _, hi, _ => by simp at hi
  | x :: r, t, 0, _, _ => by simp [opG]
  | x :: r, t, i + 1, hi, h => by
    have := opG_get c v r (t + 1) i (by simpa using hi) (by rw [opG_len]; simpa using hi)
    simp only [opG, List.getElem_cons_succ]
    rw [this]
    congr 1
    omega
/-- a message that is taken: what comes of it -/
theorem take_all {w : World} {S T : Nat → Prop} {R base B : Nat} {c : Cl} {P : List Gp} {v : Rv} {k : Dk} {n : Nat} (h : RtAt w S R c P v) (hd : DkAt w base T B R k) (pu : Pu c (P.map (·.g)) v k n) (hn : n ≤ 3000000000) (hb : base ≤ w.heap.size) (x : Mg) (hid : tkOk x.id) :
    ∃ gs' v' k', Pu c gs' v' k' (n + 1) ∧ ∀ X, Kp w X non → Calls Tryz.prog 44 #[.pointer (some ⟨B, 0, none⟩), .agg (mgV x)] X fun e w' => e = .returned (.bool true) ∧ Desk X w' S T R base B c gs' v' k' := by
  have hkl := pu.kl
  have hwl := pu.wl
  have hla := pu.inv.last
  by_cases hm : x.td ≠ 65 ∨ (x.kind ≠ 12 ∧ x.kind ≠ 2)
  · refine ⟨_, _, _, pu.same, fun X kx => dtake_no (er := 1) (h.kp kx (fun _ _ f => f)) (hd.kp kx (fun _ _ f => f)) (by decide) (fun Y hY => Calls.mono (Take_arg hY x hm) ?_)⟩
    rintro e w' ⟨rfl, k1⟩
    exact ⟨rfl, hY.kp k1 (fun _ _ f => f), k1.mono (fun _ f => f.elim)⟩
  · by_cases hf : 0 ≤ x.fr ∧ x.fr < (v.d.n : Int)
    · obtain ⟨_, i2, i3⟩ := pu.inv.take pu.ok.srt v.now x
      have l1 := takeM_len (P.map (·.g)) v.now x
      have l2 := takeO_len (P.map (·.g)) x
      refine ⟨_, _, _, pu.take x, fun X kx => ?_⟩
      have := kx.size
      exact dtake_any (h.kp kx (fun _ _ f => f)) (hd.kp kx (fun _ _ f => f)) (by omega) (fun Y hY => Take_any hY pu.ok (by omega) x hid hm hf) i3 i2 pu.inv.dl (by omega) (by omega) (by omega) (by omega)
    · refine ⟨_, _, _, pu.same, fun X kx => dtake_no (er := 68) (h.kp kx (fun _ _ f => f)) (hd.kp kx (fun _ _ f => f)) (by decide) (fun Y hY => Calls.mono (Take_node hY pu.ok.up.ft x hm hf) ?_)⟩
      rintro e w' ⟨rfl, k1, k2⟩
      exact ⟨rfl, k1, k2⟩
theorem tick_all {w : World} {S T : Nat → Prop} {R base B : Nat} {c : Cl} {P : List Gp} {v : Rv} {k : Dk} {n : Nat} (h : RtAt w S R c P v) (hd : DkAt w base T B R k) (pu : Pu c (P.map (·.g)) v k n) (hn : n ≤ 3000000000) (hb : base ≤ w.heap.size) :
    Calls Tryz.prog 21 #[.pointer (some ⟨B, 0, none⟩)] w fun e w' => e = .returned (.bool true) ∧ Desk w w' S T R base B c (tickK c (P.map (·.g)) v).gs ⟨(tickK c (P.map (·.g)) v).d, v.now + 1, v.last⟩ ((k.wnt (tickL c (P.map (·.g)) v)).ends (tickK c (P.map (·.g)) v).E) := by
  have hkl := pu.kl
  have hwl := pu.wl
  have hla := pu.inv.last
  have hnw := pu.now
  have ht := pu.ok.up.t1
  obtain ⟨_, i2, i3, i4, i5⟩ := pu.tick
  exact dtick_any h hd hb (Tick_r h pu.ok (by omega) (by omega) (by omega) (by omega)) i3 i2 pu.inv.dl (by omega) (by omega) (by omega) (by omega)
/-- a step of the script: what comes of it -/
theorem step_any {w : World} {S T : Nat → Prop} {R base B : Nat} {c : Cl} {P : List Gp} {v : Rv} {k : Dk} {n : Nat} (h : RtAt w S R c P v) (hd : DkAt w base T B R k) (pu : Pu c (P.map (·.g)) v k n) (hn : n ≤ 3000000000) (hb : base ≤ w.heap.size) (hT : TabD w) (hG : ∀ j, S j → 3 ≤ j)
    {o : Op2} (ao : Option Addr) (lb lo lcap : Nat) (ks : List ByteArray) (hol : o.l = .slice ao ks.length lcap) (hks : KsAt w ao lb lo ks) (hkk : ks.length ≤ 8796093022200) (hlS : ¬ S lb) (hlT : ¬ T lb) (hss : o.s.size ≤ 9223372036854775807) (hon : tkOk o.n) (hmid : tkOk o.m.id) :
    Calls Tryz.prog 19 #[.pointer (some ⟨B, 0, none⟩), .agg (opV o)] w fun e w' => e = .returned (.bool true) ∧ ∃ gs' v' k', Pu c gs' v' k' (n + 1) ∧ Desk w w' S T R base B c gs' v' k' := by
  have hkl := pu.kl
  have hwl := pu.wl
  have hla := pu.inv.last
  have hgl := pu.ok.len
  rw [List.length_map] at hgl
  by_cases h1 : o.kd = 1
  · by_cases h0 : mayE P.length [o.s] = 0
    · have hl := mayE_len h0
      refine Calls.mono (step_get (mm := getMg ⟨v.last + 1, o.s, ordL v.d (baseOf c o.s), 1, v.now⟩) (v' := { v with last := v.last + 1 }) (gs' := P.map (·.g) ++ opG c v [o.s] (v.last + 1)) h hd h1 hb hss (fun X kx => ?_) ⟨rfl, by show v.last + 1 = _; omega, rfl⟩ (by omega) pu.inv.dl (by omega)) ?_
      · have GA := Get_any (h.kp kx (fun _ _ f => f)) pu.ok (tab_kp hT kx (fun _ f => f.elim)) hG (by omega) o.s hss h0
        rw [hla] at GA ⊢
        exact GA
      · rintro e w' ⟨rfl, d⟩
        exact ⟨rfl, _, _, _, pu.opened [o.s] (by rw [List.length_map]; exact hl), d⟩
    · refine Calls.mono (step_getno h hd h1 h0 (fun X kx => Get_no (h.kp kx (fun _ _ f => f)) (by omega) o.s hss h0)) ?_
      rintro e w' ⟨rfl, d⟩
      exact ⟨rfl, _, _, _, pu.same, d⟩
  · by_cases h2 : o.kd = 2
    · by_cases h0 : mayE P.length ks ≠ 0 ∨ ks = []
      · refine Calls.mono (step_allno h hd h2 ao lb lo lcap ks hol hks hkk h0 (fun X ao' b' o' cap' kx hk' hS' => ?_)) ?_
        · exact GetAll_no (h.kp kx (fun _ _ f => f)) (by omega) ao' b' o' cap' ks hk' h0
        · rintro e w' ⟨rfl, d⟩
          exact ⟨rfl, _, _, _, pu.same, d⟩
      · have h00 : mayE P.length ks = 0 := by
          by_cases q : mayE P.length ks = 0
          · exact q
          · exact absurd (Or.inl q) h0
        have hne : ks ≠ [] := fun q => h0 (Or.inr q)
        have hl := mayE_len h00
        refine Calls.mono (step_all (L := (opG c v ks (v.last + 1)).map getMg) (v' := { v with last := v.last + (ks.length : Int) }) (gs' := P.map (·.g) ++ opG c v ks (v.last + 1)) h hd h2 hb ao lb lo lcap ks hol hks (by omega) hne hlS hlT (fun X ao' b' o' cap' kx hk' hS' => ?_) (by rw [List.length_map, opG_len]) (fun i hi1 hi2 => ?_) (by omega) pu.inv.dl (by omega)) ?_
        · have GA := GetAll_any (h.kp kx (fun _ _ f => f)) pu.ok (tab_kp hT kx (fun _ f => f.elim)) hG (by omega) ao' b' o' cap' ks hk' hS' h00 hne
          rw [List.length_map]
          rw [hla] at GA ⊢
          exact GA
        · have e := opG_get c v ks (v.last + 1) i hi2 (by rw [opG_len]; exact hi2)
          rw [List.getElem_map, e]
          exact ⟨rfl, by show v.last + 1 + (i : Int) = _; omega, rfl⟩
        · rintro e w' ⟨rfl, d⟩
          exact ⟨rfl, _, _, _, pu.opened ks (by rw [List.length_map]; exact hl), d⟩
    · by_cases h3 : o.kd = 3
      · obtain ⟨gs', v', k', p', ht⟩ := take_all h hd pu hn hb o.m hmid
        refine Calls.mono (step_take h3 ht) ?_
        rintro e w' ⟨rfl, d⟩
        exact ⟨rfl, _, _, _, p', d⟩
      · by_cases h4 : o.kd = 4
        · refine Calls.mono (step_tick h4 (fun X kx => tick_all (h.kp kx (fun _ _ f => f)) (hd.kp kx (fun _ _ f => f)) pu hn (by have := kx.size; omega))) ?_
          rintro e w' ⟨rfl, d⟩
          exact ⟨rfl, _, _, _, pu.tick.1, d⟩
        · by_cases h6 : o.kd = 6
          · refine step_reply (Q := fun w' => ∃ gs' v' k', Pu c gs' v' k' (n + 1) ∧ Desk w w' S T R base B c gs' v' k') hd h6 (by omega) hon (fun _ X kx => ⟨_, _, _, pu.same, ?_⟩) (fun j hj X kx => ?_)
            · exact ⟨S, T, P, h.kp kx (fun _ _ f => f), rfl, hd.kp kx (fun _ _ f => f), kx.mono (fun _ f => f.elim), fun _ q => Or.inl q, fun _ q => Or.inl q⟩
            · have hi := pu.wid _ (List.getElem_mem hj)
              have hid : tkOk (ansM k.went[j] o.m).id := by
                have : (ansM k.went[j] o.m).id = k.went[j].id := by unfold ansM; split <;> rfl
                unfold tkOk
                rw [this]
                omega
              obtain ⟨gs', v', k', p', ht⟩ := take_all h hd pu hn hb _ hid
              refine Calls.mono (ht X kx) ?_
              rintro e w' ⟨rfl, d⟩
              exact ⟨rfl, _, _, _, p', Desk.ahead kx d⟩
          · refine Calls.mono (step_else h1 h2 h3 h4 h6) ?_
            rintro e w' ⟨rfl, kx⟩
            exact ⟨rfl, _, _, _, pu.same, S, T, P, h.kp kx (fun _ _ f => f), rfl, hd.kp kx (fun _ _ f => f), kx.mono (fun _ f => f.elim), fun _ q => Or.inl q, fun _ q => Or.inl q⟩
end Go.Proofs.YtndfhpfhgdamgaaGreatDoor.Cn
