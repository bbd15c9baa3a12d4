import Derived.Test.YtndfhpfhgdamgaaGreatDoorGRuCopyOf
namespace Go.Proofs.YtndfhpfhgdamgaaGreatDoor.Cn
open Go.RowKit
theorem ansG_mem {gs : List Gt} {m : Mg} {g : Gt} (h : ansG gs m = some g) : g ∈ gs ∧ okAns m g = true ∧ g.tk = m.id := by
  unfold ansG at h
  obtain ⟨h1, h2⟩ := Option.filter_eq_some_iff.1 h
  obtain ⟨a, b⟩ := findG_mem h1
  exact ⟨a, h2, b⟩
theorem tks_gone (gs : List Gt) (t : Int) (h : (gs.map fun g => g.tk).Pairwise (· < ·)) : ((gone gs t).map fun g => g.tk).Pairwise (· < ·) :=
  h.sublist ((List.filter_sublist).map _)
theorem tks_askd (gs : List Gt) (t now : Int) : (askd gs t now).map (fun g => g.tk) = gs.map fun g => g.tk := by
  unfold askd
  rw [List.map_map]
  refine List.map_congr_left fun g _ => ?_
  simp only [Function.comp]
  split <;> rfl
theorem tks_goG {gs : List Gt} (now : Int) (g : Gt) (h : (gs.map fun g => g.tk).Pairwise (· < ·)) : ((goG gs now g).map fun g => g.tk).Pairwise (· < ·) := by
  unfold goG
  split
  · exact tks_gone gs _ h
  · rw [tks_askd]; exact h
/-- gets that are opened -/
theorem opG_at (c : Cl) (v : Rv) : ∀ (ks : List ByteArray) (t : Int) (g : Gt), g ∈ opG c v ks t → ∃ (i : Nat) (hi : i < ks.length), g = ⟨t + (i : Int), ks[i], ordL v.d (baseOf c ks[i]), 1, v.now⟩
  | [], _, _, h => by simp [opG] at h
  | x :: r, t, g, h => by
    rcases List.mem_cons.1 h with rfl | h
    · exact ⟨0, by simp, by simp⟩
    · obtain ⟨i, hi, e⟩ := opG_at c v r (t + 1) g h
      refine ⟨i + 1, by simp; omega, ?_⟩
      rw [e]
      simp only [List.getElem_cons_succ]
      congr 1
      omega
/-- what Ok says of the gets -/
structure GsOk (c : Cl) (gs : List Gt) (now last : Int) : Prop where
  tks : ∀ g ∈ gs, 1 ≤ g.tk ∧ g.tk ≤ last
  srt : (gs.map fun g => g.tk).Pairwise (· < ·)
  ask : ∀ g ∈ gs, 1 ≤ g.asked ∧ g.asked ≤ g.ow.length ∧ (g.ow.length : Int) = c.x 0
  own : ∀ g ∈ gs, (∀ k ∈ g.ow, 0 ≤ k ∧ k < (c.ns.length : Int)) ∧ g.ow.Nodup
  sin : ∀ g ∈ gs, 0 ≤ g.since ∧ g.since ≤ now
  len : gs.length ≤ 64
theorem Ok.gs {c : Cl} {gs : List Gt} {v : Rv} {m : Nat} (h : Ok c gs v m) : GsOk c gs v.now v.last := ⟨h.tks, h.srt, h.ask, h.own, h.sin, h.len⟩
theorem GsOk.later {c : Cl} {gs : List Gt} {now now' last last' : Int} (h : GsOk c gs now last) (h1 : now ≤ now') (h2 : last ≤ last') : GsOk c gs now' last' :=
  ⟨fun g hg => by have := h.tks g hg; omega, h.srt, h.ask, h.own, fun g hg => by have := h.sin g hg; omega, h.len⟩
theorem GsOk.fin {c : Cl} {gs : List Gt} {now last : Int} (h : GsOk c gs now last) (t : Int) : GsOk c (gone gs t) now last := by
  have hm : ∀ g, g ∈ gone gs t → g ∈ gs := fun g hg => (List.mem_filter.1 hg).1
  refine ⟨fun g hg => h.tks g (hm g hg), tks_gone gs t h.srt, fun g hg => h.ask g (hm g hg), fun g hg => h.own g (hm g hg), fun g hg => h.sin g (hm g hg), ?_⟩
  exact Nat.le_trans (List.length_filter_le _ _) h.len
theorem askd_mem {gs : List Gt} (hs : (gs.map fun g => g.tk).Pairwise (· < ·)) {g : Gt} (hg : g ∈ gs) {now : Int} {g' : Gt} (h : g' ∈ askd gs g.tk now) : g' ∈ gs ∨ g' = askG now g := by
  obtain ⟨g0, m1, m2⟩ := List.mem_map.1 h
  by_cases e : g0.tk = g.tk
  · have e2 : g0 = g := by
      have f1 := findG_of hs m1
      have f2 := findG_of hs hg
      rw [e, f2] at f1
      exact (Option.some.inj f1).symm
    rw [if_pos e] at m2
    exact Or.inr (by rw [← m2, e2])
  · rw [if_neg e] at m2
    exact Or.inl (by rw [← m2]; exact m1)
theorem GsOk.goes {c : Cl} {gs : List Gt} {now last : Int} (h : GsOk c gs now last) (h0 : 0 ≤ now) {g : Gt} (hg : g ∈ gs) : GsOk c (goG gs now g) now last := by
  unfold goG
  by_cases e : g.asked = g.ow.length
  · rw [if_pos e]
    exact h.fin _
  · rw [if_neg e]
    have ha := h.ask g hg
    refine ⟨fun g' hg' => ?_, by rw [tks_askd]; exact h.srt, fun g' hg' => ?_, fun g' hg' => ?_, fun g' hg' => ?_, by unfold askd; rw [List.length_map]; exact h.len⟩
    · rcases askd_mem h.srt hg hg' with q | rfl
      · exact h.tks g' q
      · exact h.tks g hg
    · rcases askd_mem h.srt hg hg' with q | rfl
      · exact h.ask g' q
      · exact ⟨Nat.le_add_left _ _, by show g.asked + 1 ≤ g.ow.length; omega, ha.2.2⟩
    · rcases askd_mem h.srt hg hg' with q | rfl
      · exact h.own g' q
      · exact h.own g hg
    · rcases askd_mem h.srt hg hg' with q | rfl
      · exact h.sin g' q
      · exact ⟨h0, Int.le_refl _⟩
theorem GsOk.take {c : Cl} {gs : List Gt} {now last : Int} (h : GsOk c gs now last) (h0 : 0 ≤ now) (m : Mg) : GsOk c (takeG gs now m) now last := by
  unfold takeG
  cases hA : ansG gs m with
  | none => exact h
  | some g =>
    have hg := (ansG_mem hA).1
    simp only [hearG]
    split
    · exact h.fin _
    · split
      · exact h.goes h0 hg
      · exact h
theorem GsOk.all {c : Cl} {gs : List Gt} {now last : Int} (h : GsOk c gs now last) (h0 : 0 ≤ now) (d : Dt) (T : List Int) : GsOk c (tkAll now ⟨gs, d, [], []⟩ T).gs now last := by
  have key : ∀ (T : List Int) (s : Tk), GsOk c s.gs now last → GsOk c (tkAll now s T).gs now last := by
    intro T
    induction T with
    | nil => exact fun s h => h
    | cons t r ih =>
      intro s hs
      refine ih (tkStep now s t) ?_
      unfold tkStep
      cases hf : findG s.gs t with
      | none => exact hs
      | some g => exact hs.goes h0 (findG_mem hf).1
  exact key T _ h
theorem Ok.of {c : Cl} {gs gs' : List Gt} {v v' : Rv} {m m' : Nat} (h : Ok c gs v m) (hg : GsOk c gs' v'.now v'.last) (h1 : v'.d.upto m') (h2 : v'.d.enb) (h3 : v'.d.n = v.d.n) (h4 : 0 ≤ v'.now) (h5 : 0 ≤ v'.last) : Ok c gs' v' m' :=
  ⟨h.err, h.st, h1, h2, h3.trans h.dn, h4, h5, hg.tks, hg.srt, hg.ask, hg.own, hg.sin, hg.len⟩
theorem enb_good {d : Dt} (h : d.enb) (hf : d.fits) (k : Int) : (d.good k).enb := fun j => by
  show upd d.en k 0 j ≤ d.now + d.ban
  unfold upd
  split
  · have := hf.t0
    have := hf.b1
    omega
  · exact h j
/-- a take keeps it -/
theorem Ok.take {c : Cl} {gs : List Gt} {v : Rv} {m : Nat} (h : Ok c gs v m) (x : Mg) : Ok c (takeG gs v.now x) { v with d := v.d.good x.fr } m :=
  h.of (h.gs.take h.now0 x) (h.up.good _) (enb_good h.enb h.up.ft _) rfl h.now0 h.last0
/-- a tick keeps it -/
theorem due_len (now wait : Int) (gs : List Gt) : (dueT now wait gs).length ≤ gs.length := by
  unfold dueT
  rw [List.length_map]
  exact List.length_filter_le _ _
theorem Ok.tick {c : Cl} {gs : List Gt} {v : Rv} {m : Nat} (h : Ok c gs v m) : Ok c (tickK c gs v).gs ⟨(tickK c gs v).d, v.now + 1, v.last⟩ (m + 1 + gs.length) := by
  have hn := h.now0
  have hl := h.len
  have hd := due_len (v.now + 1) (c.x 17) gs
  have a1 := all_upto (s := ⟨gs, v.d.tick, [], []⟩) (now := v.now + 1) (dueT (v.now + 1) (c.x 17) gs) (upto_tick h.up)
  have a2 := all_enb (s := ⟨gs, v.d.tick, [], []⟩) (now := v.now + 1) (dueT (v.now + 1) (c.x 17) gs) (upto_tick h.up).ft (enb_tick h.enb)
  have a3 := (all_len (s := ⟨gs, v.d.tick, [], []⟩) (now := v.now + 1) (dueT (v.now + 1) (c.x 17) gs)).2.2.2
  refine h.of ?_ (a1.mono (by omega)) a2.1 a3 (by show 0 ≤ v.now + 1; omega) h.last0
  exact (h.gs.later (by show v.now ≤ v.now + 1; omega) (Int.le_refl _)).all (by omega) _ _
theorem opG_srt (c : Cl) (v : Rv) : ∀ (ks : List ByteArray) (t : Int), ((opG c v ks t).map fun g => g.tk).Pairwise (· < ·)
  | [], _ => List.Pairwise.nil
  | x :: r, t => by
    refine List.Pairwise.cons (fun y hy => ?_) (opG_srt c v r (t + 1))
    obtain ⟨g, hg, rfl⟩ := List.mem_map.1 hy
    obtain ⟨i, hi, rfl⟩ := opG_at c v r _ g hg
    show t < t + 1 + (i : Int)
    omega
/-- an opening keeps it -/
theorem Ok.opened {c : Cl} {gs : List Gt} {v : Rv} {m : Nat} (h : Ok c gs v m) (ks : List ByteArray) (hl : gs.length + ks.length ≤ 64) : Ok c (gs ++ opG c v ks (v.last + 1)) { v with last := v.last + (ks.length : Int) } m := by
  have hl0 := h.last0
  have ho : ∀ g ∈ opG c v ks (v.last + 1), v.last + 1 ≤ g.tk ∧ g.tk ≤ v.last + (ks.length : Int) ∧ g.asked = 1 ∧ g.since = v.now ∧ ∃ key, g.ow = ordL v.d (baseOf c key) := fun g hg => by
    obtain ⟨i, hi, rfl⟩ := opG_at c v ks _ g hg
    exact ⟨by show v.last + 1 ≤ v.last + 1 + (i : Int); omega, by show v.last + 1 + (i : Int) ≤ _; omega, rfl, rfl, _, rfl⟩
  have hx : 1 ≤ c.x 0 ∧ c.x 0 ≤ 16 := sfP_lim (errP_all h.err).2.1 0 (by omega)
  refine h.of ⟨fun g hg => ?_, ?_, fun g hg => ?_, fun g hg => ?_, fun g hg => ?_, ?_⟩ h.up h.enb rfl h.now0 (by show 0 ≤ v.last + (ks.length : Int); omega)
  · show 1 ≤ g.tk ∧ g.tk ≤ v.last + (ks.length : Int)
    rcases List.mem_append.1 hg with q | q
    · have := h.tks g q; omega
    · have := ho g q; omega
  · rw [List.map_append]
    refine List.pairwise_append.2 ⟨h.srt, opG_srt c v ks _, fun a ha b hb => ?_⟩
    obtain ⟨g, hg, rfl⟩ := List.mem_map.1 ha
    obtain ⟨g', hg', rfl⟩ := List.mem_map.1 hb
    have := h.tks g hg
    have := ho g' hg'
    omega
  · rcases List.mem_append.1 hg with q | q
    · exact h.ask g q
    · obtain ⟨_, _, e, _, key, ek⟩ := ho g q
      have := (ord_ok h.err h.up.ft h.enb key).1
      rw [← ek] at this
      refine ⟨by omega, by omega, this⟩
  · rcases List.mem_append.1 hg with q | q
    · exact h.own g q
    · obtain ⟨_, _, e, _, key, ek⟩ := ho g q
      rw [ek]
      exact (ord_ok h.err h.up.ft h.enb key).2
  · rcases List.mem_append.1 hg with q | q
    · exact h.sin g q
    · obtain ⟨_, _, _, e, _⟩ := ho g q
      rw [e]
      exact ⟨h.now0, Int.le_refl _⟩
  · rw [List.length_append, opG_len]
    exact hl
/-- every get was asked less than wt ticks ago -/
def Fr (wt now : Int) (gs : List Gt) : Prop := ∀ g ∈ gs, now < g.since + wt
/-- in M ticks every get has ended -/
def Lm (wt now M : Int) (gs : List Gt) : Prop := ∀ g ∈ gs, g.since + wt * ((g.ow.length : Int) - (g.asked : Int) + 1) ≤ now + M
theorem goG_mem {gs : List Gt} (hs : (gs.map fun g => g.tk).Pairwise (· < ·)) {g : Gt} (hg : g ∈ gs) {now : Int} {g' : Gt} (h : g' ∈ goG gs now g) : (g' ∈ gs ∧ g'.tk ≠ g.tk) ∨ (g' = askG now g ∧ g.asked ≠ g.ow.length) := by
  unfold goG at h
  by_cases e : g.asked = g.ow.length
  · rw [if_pos e] at h
    have := List.mem_filter.1 h
    exact Or.inl ⟨this.1, by simpa using this.2⟩
  · rw [if_neg e] at h
    obtain ⟨g0, m1, m2⟩ := List.mem_map.1 h
    by_cases e1 : g0.tk = g.tk
    · have e2 : g0 = g := by
        have f1 := findG_of hs m1
        have f2 := findG_of hs hg
        rw [e1, f2] at f1
        exact (Option.some.inj f1).symm
      rw [if_pos e1] at m2
      exact Or.inr ⟨by rw [← m2, e2], e⟩
    · rw [if_neg e1] at m2
      exact Or.inl (by rw [← m2]; exact ⟨m1, e1⟩)
theorem step_mem {s : Tk} (hs : (s.gs.map fun g => g.tk).Pairwise (· < ·)) {now t : Int} {g' : Gt} (h : g' ∈ (tkStep now s t).gs) : (g' ∈ s.gs ∧ g'.tk ≠ t) ∨ ∃ g ∈ s.gs, g.tk = t ∧ g' = askG now g ∧ g.asked ≠ g.ow.length := by
  unfold tkStep at h
  cases hf : findG s.gs t with
  | none =>
    rw [hf] at h
    refine Or.inl ⟨h, fun e => ?_⟩
    have := findG_of hs (g := g') h
    rw [e, hf] at this
    cases this
  | some g =>
    rw [hf] at h
    obtain ⟨hg, ht⟩ := findG_mem hf
    rcases goG_mem hs hg h with q | q
    · exact Or.inl ⟨q.1, by rw [← ht]; exact q.2⟩
    · exact Or.inr ⟨g, hg, ht, q⟩
theorem step_srt {s : Tk} (hs : (s.gs.map fun g => g.tk).Pairwise (· < ·)) (now t : Int) : ((tkStep now s t).gs.map fun g => g.tk).Pairwise (· < ·) := by
  unfold tkStep
  split
  · exact hs
  · exact tks_goG now _ hs
theorem all_mem (now : Int) : ∀ (T : List Int) (s : Tk), T.Nodup → (s.gs.map fun g => g.tk).Pairwise (· < ·) → ∀ g' ∈ (tkAll now s T).gs, (g' ∈ s.gs ∧ g'.tk ∉ T) ∨ ∃ g ∈ s.gs, g.tk ∈ T ∧ g' = askG now g ∧ g.asked ≠ g.ow.length
  | [], s, _, _, g', h => Or.inl ⟨h, by simp⟩
  | t :: r, s, hn, hs, g', h => by
    rw [List.nodup_cons] at hn
    rcases all_mem now r (tkStep now s t) hn.2 (step_srt hs now t) g' h with ⟨q1, q2⟩ | ⟨g, q1, q2, q3⟩
    · rcases step_mem hs q1 with ⟨p1, p2⟩ | ⟨g, p1, p2, p3⟩
      · exact Or.inl ⟨p1, by rw [List.mem_cons, not_or]; exact ⟨p2, q2⟩⟩
      · exact Or.inr ⟨g, p1, by rw [p2]; exact List.mem_cons_self, p3⟩
    · rcases step_mem hs q1 with ⟨p1, p2⟩ | ⟨g2, p1, p2, p3, _⟩
      · exact Or.inr ⟨g, p1, List.mem_cons_of_mem _ q2, q3⟩
      · have e : g.tk = t := by rw [p3]; exact p2
        rw [e] at q2
        exact absurd q2 hn.1
theorem due_nodup (now wt : Int) {gs : List Gt} (hs : (gs.map fun g => g.tk).Pairwise (· < ·)) : (dueT now wt gs).Nodup := by
  have h : (dueT now wt gs).Pairwise (· < ·) := hs.sublist ((List.filter_sublist).map _)
  rw [List.nodup_iff_pairwise_ne]
  exact h.imp fun h => by omega
theorem tick_mem {c : Cl} {gs : List Gt} {v : Rv} (hs : (gs.map fun g => g.tk).Pairwise (· < ·)) {g' : Gt} (h : g' ∈ (tickK c gs v).gs) : (g' ∈ gs ∧ v.now + 1 - g'.since ≠ c.x 17) ∨ ∃ g ∈ gs, v.now + 1 - g.since = c.x 17 ∧ g' = askG (v.now + 1) g ∧ g.asked ≠ g.ow.length := by
  rcases all_mem (v.now + 1) _ ⟨gs, v.d.tick, [], []⟩ (due_nodup (v.now + 1) (c.x 17) hs) hs g' h with ⟨q1, q2⟩ | ⟨g, q1, q2, q3⟩
  · refine Or.inl ⟨q1, fun e => q2 ?_⟩
    exact List.mem_map.2 ⟨g', List.mem_filter.2 ⟨q1, decide_eq_true e⟩, rfl⟩
  · refine Or.inr ⟨g, q1, ?_, q3⟩
    obtain ⟨g2, m1, m2⟩ := List.mem_map.1 q2
    obtain ⟨m3, m4⟩ := List.mem_filter.1 m1
    have e : g2 = g := by
      have f1 := findG_of hs m3
      have f2 := findG_of hs q1
      rw [show g2.tk = g.tk from m2, f2] at f1
      exact (Option.some.inj f1).symm
    rw [← e]
    exact of_decide_eq_true m4
theorem Fr.tick {c : Cl} {gs : List Gt} {v : Rv} (h : Fr (c.x 17) v.now gs) (hs : (gs.map fun g => g.tk).Pairwise (· < ·)) (h1 : 1 ≤ c.x 17) : Fr (c.x 17) (v.now + 1) (tickK c gs v).gs := fun g' hg => by
  rcases tick_mem hs hg with ⟨q1, q2⟩ | ⟨g, q1, q2, q3, q4⟩
  · have := h g' q1
    omega
  · rw [q3]
    show v.now + 1 < v.now + 1 + c.x 17
    omega
theorem Lm.tick {c : Cl} {gs : List Gt} {v : Rv} {M : Int} (h : Lm (c.x 17) v.now M gs) (hs : (gs.map fun g => g.tk).Pairwise (· < ·)) : Lm (c.x 17) (v.now + 1) (M - 1) (tickK c gs v).gs := fun g' hg => by
  rcases tick_mem hs hg with ⟨q1, q2⟩ | ⟨g, q1, q2, q3, q4⟩
  · have := h g' q1
    omega
  · have := h g q1
    rw [q3]
    show v.now + 1 + c.x 17 * ((g.ow.length : Int) - ((g.asked + 1 : Nat) : Int) + 1) ≤ v.now + 1 + (M - 1)
    rw [show (g.ow.length : Int) - ((g.asked + 1 : Nat) : Int) + 1 = (g.ow.length : Int) - (g.asked : Int) by omega]
    rw [Int.mul_add, Int.mul_one] at this
    omega
theorem Fr.goes {wt : Int} {gs : List Gt} {now : Int} (h : Fr wt now gs) (hs : (gs.map fun g => g.tk).Pairwise (· < ·)) (h1 : 1 ≤ wt) {g : Gt} (hg : g ∈ gs) : Fr wt now (goG gs now g) := fun g' h' => by
  rcases goG_mem hs hg h' with q | q
  · exact h g' q.1
  · rw [q.1]
    show now < now + wt
    omega
theorem Fr.fin {wt : Int} {gs : List Gt} {now : Int} (h : Fr wt now gs) (t : Int) : Fr wt now (gone gs t) := fun g hg => h g (List.mem_filter.1 hg).1
theorem Fr.take {wt : Int} {gs : List Gt} {now : Int} (h : Fr wt now gs) (hs : (gs.map fun g => g.tk).Pairwise (· < ·)) (h1 : 1 ≤ wt) (m : Mg) : Fr wt now (takeG gs now m) := by
  unfold takeG
  cases hA : ansG gs m with
  | none => exact h
  | some g =>
    have hg := (ansG_mem hA).1
    simp only [hearG]
    split
    · exact h.fin _
    · split
      · exact h.goes hs h1 hg
      · exact h
theorem Fr.opened {c : Cl} {gs : List Gt} {v : Rv} (h : Fr (c.x 17) v.now gs) (h1 : 1 ≤ c.x 17) (ks : List ByteArray) (t : Int) : Fr (c.x 17) v.now (gs ++ opG c v ks t) := fun g hg => by
  rcases List.mem_append.1 hg with q | q
  · exact h g q
  · obtain ⟨i, hi, rfl⟩ := opG_at c v ks _ g q
    show v.now < v.now + c.x 17
    omega
theorem Ok.wt {c : Cl} {gs : List Gt} {v : Rv} {m : Nat} (ok : Ok c gs v m) : 1 ≤ c.x 17 ∧ c.x 17 ≤ 1024 := sfP_lim (errP_all ok.err).2.1 17 (by omega)
theorem Ok.more2 {c : Cl} {gs : List Gt} {v : Rv} {m m' : Nat} (h : Ok c gs v m) (hm : m ≤ m') : Ok c gs v m' := h.of h.gs (h.up.mono hm) h.enb rfl h.now0 h.last0
end Go.Proofs.YtndfhpfhgdamgaaGreatDoor.Cn
namespace Go.Proofs.YtndfhpfhgdamgaaGreatDoor.Cn
open Go.RowKit
/-- an answer that is under way -/
structure Lt where
  m : Mg
  lf : Int
def ltV (l : Lt) : Array Value := #[.int .i64 l.m.kind, .int .i64 l.m.fr, .int .i64 l.m.td, .int .i64 l.m.id, .int .i64 l.m.ep, .int .i64 l.m.sq, .int .i64 l.m.ver, .int .i64 l.m.prev, .int .i64 l.m.code, .string l.m.key, .string l.m.val, .int .i64 l.lf]
def lt0 : Lt := ⟨mg0, 0⟩
theorem lt_info : (Tryz.prog.info? 136).map (·.size) = some 12 := by kernel_rfl
theorem lt_infos : (Tryz.prog.info? 136).map (fun i => (i.zero, i.size, i.bytes)) = some (some (.agg (ltV lt0)), 12, 112) := by kernel_rfl
theorem lt_one (m : Lt) : (ltV m).all (·.oneCell') = true := by simp [ltV, Value.oneCell']
def LtAt (w : World) (b : Nat) (m : Lt) : Prop := w.heap[b]? = some (.cells (ltV m) 136)
theorem LtAt.keep {w w' : World} {b : Nat} {m : Lt} {S : Nat → Prop} (h : LtAt w b m) (hk : Kp w w' S) (hs : ¬ S b) : LtAt w' b m := (hk.block b (blk_lt h) hs).trans h
theorem LtAt.new (w : World) (m : Lt) : LtAt (w.alloc (.cells (ltV m) 136)) w.heap.size m := heap_last _ _
/-- messages, as cells -/
def lts (l : List Lt) : List Value := l.flatMap fun m => (ltV m).toList
theorem lts_append (a b : List Lt) : lts (a ++ b) = lts a ++ lts b := List.flatMap_append
theorem lts_one (m : Lt) : lts [m] = (ltV m).toList := by unfold lts; rw [List.flatMap_cons, List.flatMap_nil, List.append_nil]
theorem lts_len (L : List Lt) : (lts L).length = L.length * 12 := by
  induction L with
  | nil => rfl
  | cons a r ih =>
    unfold lts at *
    rw [List.flatMap_cons, List.length_append, ih]
    simp only [List.length_cons, ltV, List.length_nil]
    omega
theorem lts_oneCell (L : List Lt) : ∀ u ∈ lts L, u.oneCell' = true := by
  intro u hu
  unfold lts at hu
  obtain ⟨m, _, hm⟩ := List.mem_flatMap.1 hu
  have := Array.all_eq_true_iff_forall_mem.1 (lt_one m) u (by simpa using hm)
  exact this
theorem lts_at (L : List Lt) (q : Nat) (h : q < L.length) (j : Nat) (hj : j < 12) : (lts L)[q * 12 + j]? = (ltV L[q])[j]? := by
  induction L generalizing q with
  | nil => simp at h
  | cons a r ih =>
    cases q with
    | zero =>
      unfold lts
      rw [List.flatMap_cons, Nat.zero_mul, Nat.zero_add, List.getElem?_append_left (by simpa [ltV] using hj)]
      simp
    | succ q =>
      have h' : q < r.length := by simpa using h
      have := ih q h'
      unfold lts at *
      rw [List.flatMap_cons, show (q + 1) * 12 + j = (ltV a).toList.length + (q * 12 + j) by simp [ltV]; omega, List.getElem?_append_right (by omega), Nat.add_sub_cancel_left]
      exact this
theorem fill_lt (m : Lt) : Instr.fill (fun i => some (i * 12, 12)) ((Array.range (1 * 12)).map ((Value.agg (ltV lt0)).cells[· % (Value.agg (ltV lt0)).cells.size]!)) [(0, .agg (ltV m))] = some (ltV m) := by kernel_rfl
theorem wp_bsLt {w : World} {o : Oper} {a : Act} {K : Act → World → Prop} {Q : Exit → Act → World → Prop} (x : Operand) (ho : o.op = .buildSlice 45 1 #[(0, x)]) (m : Lt) (hx : a.eval x = .agg (ltV m))
    (h : K (a.put o.dst (.slice (some ⟨w.heap.size, 0, none⟩) 1 1)) (w.alloc (.cells (ltV m) 136))) : o.wp Tryz.prog a w K Q := by
  obtain ⟨i0, hi, hz0, hz1, hz2⟩ := mg_parts lt_infos
  refine wp_buildSlice 45 136 1 _ ho (ltV m) i0 _ Tryz.underlying45 hi hz0 (by rw [hz1]; decide) (by rw [hz1]; decide) ?_ h
  rw [hz1]
  simp only [List.map_toArray, List.map_cons, List.map_nil, hx]
  exact fill_lt m
theorem wpList_bsLt {w : World} {ops : Array Oper} {rest : List Oper} {o : Oper} {a : Act} {Q : Exit → Act → World → Prop} (hgd : o.guard = none) (x : Operand) (ho : o.op = .buildSlice 45 1 #[(0, x)]) (m : Lt) (hx : a.eval x = .agg (ltV m))
    (h : wpList Tryz.prog ops Q rest (a.put o.dst (.slice (some ⟨w.heap.size, 0, none⟩) 1 1)) (w.alloc (.cells (ltV m) 136))) : wpList Tryz.prog ops Q (o :: rest) a w :=
  wpList_plain hgd fun _ hK => wp_bsLt x ho m hx (hK _ _ h)
theorem lt_cell (w : World) (m : Lt) : ∀ j u, (lts [m])[j]? = some u → (w.alloc (.cells (ltV m) 136)).cell? ((⟨w.heap.size, 0, none⟩ : Addr).add j) = some u := by
  rw [lts_one]
  intro j u hj
  rw [Addr.add_mid, Nat.zero_add, cell_row (heap_last w _)]
  simpa using hj
theorem lt_room {k : Nat} (h : k ≤ 1000000000000) : k + 1 ≤ maxLen ∧ (k + 1) * 112 ≤ 140737488355328 := by unfold maxLen; omega
theorem wpList_apLt {w : World} {ops : Array Oper} {rest : List Oper} {o : Oper} {a : Act} {Q : Exit → Act → World → Prop} (hgd : o.guard = none) (x y : Operand) (ho : o.op = .call { callee := .builtin .append, args := #[x, y], argTypes := #[45, 45] }) (base : Nat) (v : Value) (L : List Lt) (hx : a.eval x = v) (hv : w.ownsRow base 136 12 v L.length (lts L)) (g : Nat) (m : Lt) (hy : a.eval y = .slice (some ⟨g, 0, none⟩) 1 1) (hg : w.heap[g]? = some (.cells (ltV m) 136)) (hl : L.length ≤ 1000000000000) (hb : base ≤ w.heap.size)
    (h : ∀ v' w', w'.ownsRow base 136 12 v' (L.length + 1) (lts (L ++ [m])) → w.grownBy w' v.ownBlock → wpList Tryz.prog ops Q rest (a.put o.dst v') w') : wpList Tryz.prog ops Q (o :: rest) a w := by
  obtain ⟨i0, hi, hz0, hz1, hz2⟩ := mg_parts lt_infos
  refine wpList_append_own_at _ hgd _ _ 45 ho base 136 i0 _ 12 112 Tryz.underlying45 hi hz0 hz1 hz2 rfl (by decide) _ _ _ hx hv ⟨g, 0, none⟩ 1 1 (lts [m]) hy (by rw [lts_one]; rfl) ?_ (lts_oneCell _) (lt_room hl).1 (lt_room hl).2 hb ?_
  · rw [lts_one]
    intro j u hj
    rw [Addr.add_mid, Nat.zero_add, cell_row hg]
    simpa using hj
  · intro v' w' h1 h2 _ _
    rw [← lts_append] at h1
    exact h v' w' h1 h2
theorem wp_apLt {w : World} {o : Oper} {a : Act} {K : Act → World → Prop} {Q : Exit → Act → World → Prop} (x y : Operand) (ho : o.op = .call { callee := .builtin .append, args := #[x, y], argTypes := #[45, 45] }) (base : Nat) (v : Value) (L : List Lt) (hx : a.eval x = v) (hv : w.ownsRow base 136 12 v L.length (lts L)) (g : Nat) (m : Lt) (hy : a.eval y = .slice (some ⟨g, 0, none⟩) 1 1) (hg : w.heap[g]? = some (.cells (ltV m) 136)) (hl : L.length ≤ 1000000000000) (hb : base ≤ w.heap.size)
    (h : ∀ v' w', w'.ownsRow base 136 12 v' (L.length + 1) (lts (L ++ [m])) → w.grownBy w' v.ownBlock → (v'.ownBlock = v.ownBlock ∨ v'.ownBlock = some w.heap.size) → K (a.put o.dst v') w') : o.wp Tryz.prog a w K Q := by
  obtain ⟨i0, hi, hz0, hz1, hz2⟩ := mg_parts lt_infos
  obtain ⟨v', w', hr, h2, h3, _, h5⟩ := run_append_own_at (P := Tryz.prog) w base 45 o.type 136 i0 _ 12 112 Tryz.underlying45 hi hz0 hz1 hz2 rfl (by decide) v L.length (lts L) hv ⟨g, 0, none⟩ 1 1 (lts [m]) (by rw [lts_one]; rfl) (by
    rw [lts_one]
    intro j u hj
    rw [Addr.add_mid, Nat.zero_add, cell_row hg]
    simpa using hj) (lts_oneCell _) (lt_room hl).1 (lt_room hl).2 hb
  rw [← lts_append] at h2
  unfold Oper.wp execOp
  simp only [ho, resolve, invoke, builtin, Sem.run_bind, Sem.run_pure, Result.andThen_ok, List.map_toArray, List.map_cons, List.map_nil, hx, hy, hr]
  exact h v' w' h2 h3 h5
/-- the street -/
def stA (ov : Value) (M D : Int) (wv : Value) : Array Value := #[ov, .int .i64 M, .int .i64 D, wv]
structure StX (w : World) (base B ob oc : Nat) (ow : List Int) (M D : Int) (wv : Value) (Y : List Lt) : Prop where
  blk : w.heap[B]? = some (.cells (stA (.slice (some ⟨ob, 0, none⟩) ow.length oc) M D wv) 47)
  ge : base ≤ B
  own : ∀ i, i < ow.length → w.cell? ⟨ob, i, none⟩ = some (.int .i64 (atL ow i))
  lt : ob < base
  way : w.ownsRow base 136 12 wv Y.length (lts Y)
theorem StX.kp {w w' : World} {base B ob oc : Nat} {ow : List Int} {M D : Int} {wv : Value} {Y : List Lt} {S : Nat → Prop} (h : StX w base B ob oc ow M D wv Y) (hk : Kp w w' S) (hS : ∀ k, S k → base ≤ k) (h1 : ¬ S B) (h2 : ∀ k, wv.ownBlock = some k → ¬ S k) : StX w' base B ob oc ow M D wv Y :=
  ⟨(hk.block _ (blk_lt h.blk) h1).trans h.blk, h.ge, fun i hi => (hk.cell (World.block_lt_of_cell? w _ (h.own i hi)) (fun q => by have := hS ob q; have := h.lt; omega)).trans (h.own i hi), h.lt, own_keep h.way (fun k e => hk.block k (own_lt h.way e) (h2 k e))⟩
theorem StX.cells {w : World} {base B ob oc : Nat} {ow : List Int} {M D : Int} {wv : Value} {Y : List Lt} (h : StX w base B ob oc ow M D wv Y) : w.cell? ⟨B, 0, none⟩ = some (.slice (some ⟨ob, 0, none⟩) ow.length oc) ∧ w.cell? ⟨B, 1, none⟩ = some (.int .i64 M) ∧ w.cell? ⟨B, 2, none⟩ = some (.int .i64 D) ∧ w.cell? ⟨B, 3, none⟩ = some wv := by
  simp only [cell_row h.blk]
  exact ⟨rfl, rfl, rfl, rfl⟩
theorem StX.fz {w : World} {base B ob oc : Nat} {ow : List Int} {M D : Int} {wv : Value} {Y : List Lt} (h : StX w base B ob oc ow M D wv Y) (i : Nat) : w.frozen? ⟨B, i, none⟩ = false := fz_row h.blk i
/-- a router's blocks are none of the street's -/
theorem StX.not {w : World} {base B ob oc : Nat} {ow : List Int} {M D : Int} {wv : Value} {Y : List Lt} {S : Nat → Prop} {R : Nat} {c : Cl} {P : List Gp} {v : Rv} (h : StX w base B ob oc ow M D wv Y) (hr : RtAt w S R c P v) : ¬ S B ∧ ∀ k, wv.ownBlock = some k → ¬ S k := by
  refine ⟨hr.not h.blk (by decide), fun k e => ?_⟩
  obtain ⟨cur, hc⟩ := own_typ h.way e
  exact hr.not hc (by decide)
theorem kp_setRow2 (W : World) (b : Nat) (A : Array Value) : Kp W (W.setRow b A) (fun j => j = b) := ⟨rfl, rfl, rfl, by simp [World.setRow], fun j _ hj => by simp only [World.setRow, Array.getElem?_modify]; rw [if_neg (fun e => hj e.symm)]⟩
theorem own_ne2 {w : World} {b1 b2 n1 n2 s1 s2 : Nat} {t1 t2 : TypeId} {u1 u2 : Value} {x1 x2 : List Value} (h1 : w.ownsRow b1 t1 s1 u1 n1 x1) (h2 : w.ownsRow b2 t2 s2 u2 n2 x2) (ht : t1 ≠ t2) {j : Nat} (e : u1.ownBlock = some j) : u2.ownBlock ≠ some j := fun e' => by
  obtain ⟨c1, a1⟩ := own_typ h1 e
  obtain ⟨c2, a2⟩ := own_typ h2 e'
  have := a1.symm.trans a2
  simp only [Option.some.injEq, Obj.cells.injEq] at this
  exact ht this.2.1
theorem own_not {w : World} {b1 n1 s1 B : Nat} {t1 t2 : TypeId} {u1 : Value} {x1 : List Value} {A : Array Value} (h1 : w.ownsRow b1 t1 s1 u1 n1 x1) (hB : w.heap[B]? = some (.cells A t2)) (ht : t1 ≠ t2) : u1.ownBlock ≠ some B := fun e => by
  obtain ⟨c1, a1⟩ := own_typ h1 e
  have := a1.symm.trans hB
  simp only [Option.some.injEq, Obj.cells.injEq] at this
  exact ht this.2.1
/-- what is under way is another row, in the block it had or a new one -/
theorem StX.putw {w w1 : World} {base B ob oc : Nat} {ow : List Int} {M D : Int} {wv u' : Value} {Y Y' : List Lt} (h : StX w base B ob oc ow M D wv Y) (hg : Kp w w1 (fun j => wv.ownBlock = some j)) (ho : w1.ownsRow base 136 12 u' Y'.length (lts Y')) :
    w1.heap[B]? = w.heap[B]? ∧ StX (w1.setCell ⟨B, 3, none⟩ u') base B ob oc ow M D u' Y' ∧ Kp w (w1.setCell ⟨B, 3, none⟩ u') (fun j => j = B ∨ wv.ownBlock = some j) := by
  have n1 : wv.ownBlock ≠ some B := own_not h.way h.blk (by decide)
  have e1 : w1.heap[B]? = w.heap[B]? := hg.block _ (blk_lt h.blk) (fun e => n1 e)
  have b1 := e1.trans h.blk
  have k2 : Kp w1 (w1.setCell ⟨B, 3, none⟩ u') (fun j => j = B) := (Kp.refl w1 (fun j => j = B)).set (Or.inl rfl) _ _
  have n2 : u'.ownBlock ≠ some B := own_not ho b1 (by decide)
  have kk : Kp w (w1.setCell ⟨B, 3, none⟩ u') (fun j => j = B ∨ wv.ownBlock = some j) := (hg.mono (fun j q => Or.inr q)).trans k2 (fun j q => Or.inl (Or.inl q))
  refine ⟨e1, ⟨?_, h.ge, fun i hi => (kk.cell (World.block_lt_of_cell? w _ (h.own i hi)) (fun q => ?_)).trans (h.own i hi), h.lt, own_kp ho k2 (fun j e q => n2 (q ▸ e))⟩, kk⟩
  · rw [heap_setCell _ _ _ _ _ _ _ b1]; rfl
  · have h1 := h.lt
    have h2 := h.ge
    rcases q with q | q
    · replace q : ob = B := q
      omega
    · have := own_ge h.way q
      replace this : base ≤ ob := this
      omega
theorem street_info : (Tryz.prog.info? 47).map (·.size) = some 4 := by kernel_rfl
end Go.Proofs.YtndfhpfhgdamgaaGreatDoor.Cn
namespace Go.Proofs.YtndfhpfhgdamgaaGreatDoor.Cn
open Go.RowKit
def mtB (M n : Int) : Bool := bits BinOp.and IntKind.i64 (M / 2 ^ n.toNat) 1 == 1
set_option maxHeartbeats 4000000 in
set_option maxRecDepth 100000 in
set_option linter.unusedSimpArgs false in
set_option linter.unusedVariables false in
theorem mute_any {w : World} {B : Nat} (M : Int) (n : Int) (c1 : w.cell? ⟨B, 1, none⟩ = some (.int .i64 M)) (h0 : 0 ≤ n) (h1 : n < 16) :
    Calls Tryz.prog 39 #[.pointer (some ⟨B, 0, none⟩), .int .i64 n] w fun e w' => e = .returned (.bool (mtB M n)) ∧ w = w' := by
  have q0 : decide ((0 : Int) ≤ n) = true := decide_eq_true h0
  have q1 : decide (n < 63) = true := decide_eq_true (by omega)
  have q2 : ¬ n < 0 := by omega
  go_enter Tryz.func39, Tryz.ntmps39
  go_wp2_with fail
  go_ret
  exact ⟨rfl, rfl⟩
end Go.Proofs.YtndfhpfhgdamgaaGreatDoor.Cn
namespace Go.Proofs.YtndfhpfhgdamgaaGreatDoor.Cn
open Go.RowKit
set_option maxHeartbeats 4000000 in
set_option maxRecDepth 100000 in
theorem num_r (w : World) (n : Int) : Calls Tryz.prog 8 #[.int .i64 n] w fun e w' => e = .returned (.int .i64 n) ∧ w = w' := by
  go_enter Tryz.func8, Tryz.ntmps8
  go_wp2_with fail
  go_ret
  exact ⟨rfl, rfl⟩
theorem mg_range {w : World} {base g cap n : Nat} {L : List Mg} (h : w.ownsRow base 58 11 (.slice (some ⟨g, 0, none⟩) n cap) n (mgs L)) {i : Nat} (hi : i < L.length) (hn : n = L.length) : w.rangeAt g (i * 11) (mgV L[i]).toList := fun j u hj => by
  have hj' := (List.getElem?_eq_some_iff.1 hj).1
  have h11 : (mgV L[i]).toList.length = 11 := rfl
  rw [h11] at hj'
  rw [h.cellAt (i * 11 + j) (by omega), mgs_at L i hi j hj']
  simpa using hj
set_option maxHeartbeats 16000000 in
set_option maxRecDepth 100000 in
set_option linter.unusedSimpArgs false in
set_option linter.unusedVariables false in
theorem joined_any {w : World} {b1 b2 : Nat} {v1 v2 : Value} {L1 L2 : List Mg} (h1 : w.ownsRow b1 58 11 v1 L1.length (mgs L1)) (h2 : w.ownsRow b2 58 11 v2 L2.length (mgs L2)) (hl : L1.length + L2.length ≤ 1000000000000) :
    Calls Tryz.prog 25 #[v1, v2] w fun e w' => ∃ v', e = .returned v' ∧ w'.ownsRow w.heap.size 58 11 v' (L1 ++ L2).length (mgs (L1 ++ L2)) ∧ Below w.heap.size w w' := by
  obtain ⟨a1, c1, e1⟩ := own_sl h1
  obtain ⟨a2, c2, e2⟩ := own_sl h2
  subst e1
  subst e2
  have H1 := hide h1
  have H2 := hide h2
  clear h1 h2
  go_enter Tryz.func25, Tryz.ntmps25
  go_wp2_with fail
  go_loopw [5, 6] (fun v5 vi wr => ∃ (i : Nat) (a5 : Option Addr) (c5 : Nat) (QQ : List Mg), i ≤ L1.length ∧ vi = .int .i64 (i : Int) ∧ QQ = [] ++ L1.take i ∧ v5 = .slice a5 QQ.length c5 ∧ wr.ownsRow w.heap.size 58 11 (.slice a5 QQ.length c5) QQ.length (mgs QQ) ∧ Kp w wr non) (fun _ vi _ => L1.length - (intOf vi).toNat)
  case atStart => exact ⟨0, none, 0, [], Nat.zero_le _, rfl, rfl, rfl, World.ownsRow_nil _ _ _ _, Kp.refl _ _⟩
  case round =>
    obtain ⟨i, a5, c5, QQ, hi, rfl, hQ, rfl, ho, hk⟩ := hrel
    have HQ := hide hQ
    have HO := hide ho
    have HK := hide hk
    clear hQ ho hk
    by_cases hin : i < L1.length
    case pos =>
      have hii : (i : Int) < (L1.length : Int) := by omega
      have hQl : QQ.length ≤ 1000000000000 := by
        rw [HQ.out, List.length_append, List.length_take]
        (try simp only [List.length_nil])
        omega
      obtain ⟨g, gc, hg⟩ := own_g H1.out (by omega)
      injection hg with hg _ hgc
      subst hg
      subst hgc
      have RG := hide (mg_range (own_kp H1.out HK.out (fun _ _ f => f)) hin rfl)
      have HQ1 : Hid (QQ ++ [L1[i]] = [] ++ L1.take (i + 1)) := by show _ = _; rw [HQ.out, List.take_succ_eq_append_getElem hin, List.append_assoc]
      generalize L1[i] = mi at *
      obtain ⟨W4, hW4⟩ : ∃ W4, W4 = wr.alloc (.cells (mgV mi) 58) := ⟨_, rfl⟩
      have k4 : Kp wr W4 non := by rw [hW4]; exact (Kp.refl wr non).alloc _
      have GG : Hid (W4.heap[wr.heap.size]? = some (.cells (mgV mi) 58)) := by rw [hW4]; exact heap_last _ _
      have O4 := hide (own_kp HO.out k4 (fun _ _ f => f))
      have K4 : Hid (Kp w W4 non) := HK.out.trans k4 (fun _ f => f.elim)
      clear k4
      go_wp2_with (first
        | refine wpList_load_mid rfl 58 (.tmp 17) rfl g (i * 11) rfl (mgV mi).toList _ RG.out Tryz.underlying58 rfl mg_info ?_
        | refine wpList_bsM rfl (.tmp 18) rfl mi rfl ?_
        | (at_builtin; rw [← hW4]; refine wpList_apM rfl (.tmp 14) (.tmp 19) rfl w.heap.size (.slice a5 QQ.length c5) QQ rfl O4.out wr.heap.size mi rfl GG.out hQl K4.out.size ?_; intro v' w' o2 g2; have O5 := hide o2; have K5 : Hid (Kp w w' non) := (K4.out.trans (Kp.of_grown g2) (fun k hk => Or.inr (own_ge O4.out hk.symm))); clear o2 g2))
      obtain ⟨a6, c6, rfl⟩ := own_sl O5.out
      go_roundw
      case rel => exact ⟨i + 1, a6, c6, QQ ++ [mi], by omega, by go_num, HQ1.out, by rw [List.length_append]; rfl, by rw [List.length_append]; exact O5.out, K5.out⟩
      case measure => simp [intOf]; omega
    case neg =>
      obtain rfl : i = L1.length := by omega
      go_wp2_with fail
      go_loopw [5, 7] (fun v5 vi wr => ∃ (i : Nat) (a5 : Option Addr) (c5 : Nat) (QQ : List Mg), i ≤ L2.length ∧ vi = .int .i64 (i : Int) ∧ QQ = L1 ++ L2.take i ∧ v5 = .slice a5 QQ.length c5 ∧ wr.ownsRow w.heap.size 58 11 (.slice a5 QQ.length c5) QQ.length (mgs QQ) ∧ Kp w wr non) (fun _ vi _ => L2.length - (intOf vi).toNat)
      case atStart => exact ⟨0, a5, c5, QQ, Nat.zero_le _, rfl, by rw [HQ.out, List.take_length]; simp, rfl, HO.out, HK.out⟩
      case round =>
        clear HQ HO HK
        obtain ⟨i, a5, c5, QQ, hi, rfl, hQ, rfl, ho, hk⟩ := hrel
        have HQ := hide hQ
        have HO := hide ho
        have HK := hide hk
        clear hQ ho hk
        by_cases hin : i < L2.length
        case pos =>
          have hii : (i : Int) < (L2.length : Int) := by omega
          have hQl : QQ.length ≤ 1000000000000 := by
            rw [HQ.out, List.length_append, List.length_take]
            (try simp only [List.length_nil])
            omega
          obtain ⟨g, gc, hg⟩ := own_g H2.out (by omega)
          injection hg with hg _ hgc
          subst hg
          subst hgc
          have RG := hide (mg_range (own_kp H2.out HK.out (fun _ _ f => f)) hin rfl)
          have HQ1 : Hid (QQ ++ [L2[i]] = L1 ++ L2.take (i + 1)) := by show _ = _; rw [HQ.out, List.take_succ_eq_append_getElem hin, List.append_assoc]
          generalize L2[i] = mi at *
          obtain ⟨W4, hW4⟩ : ∃ W4, W4 = wr.alloc (.cells (mgV mi) 58) := ⟨_, rfl⟩
          have k4 : Kp wr W4 non := by rw [hW4]; exact (Kp.refl wr non).alloc _
          have GG : Hid (W4.heap[wr.heap.size]? = some (.cells (mgV mi) 58)) := by rw [hW4]; exact heap_last _ _
          have O4 := hide (own_kp HO.out k4 (fun _ _ f => f))
          have K4 : Hid (Kp w W4 non) := HK.out.trans k4 (fun _ f => f.elim)
          clear k4
          go_wp2_with (first
            | refine wpList_load_mid rfl 58 (.tmp 30) rfl g (i * 11) rfl (mgV mi).toList _ RG.out Tryz.underlying58 rfl mg_info ?_
            | refine wpList_bsM rfl (.tmp 31) rfl mi rfl ?_
            | (at_builtin; rw [← hW4]; refine wpList_apM rfl (.tmp 27) (.tmp 32) rfl w.heap.size (.slice a5 QQ.length c5) QQ rfl O4.out wr.heap.size mi rfl GG.out hQl K4.out.size ?_; intro v' w' o2 g2; have O5 := hide o2; have K5 : Hid (Kp w w' non) := (K4.out.trans (Kp.of_grown g2) (fun k hk => Or.inr (own_ge O4.out hk.symm))); clear o2 g2))
          obtain ⟨a6, c6, rfl⟩ := own_sl O5.out
          go_roundw
          case rel => exact ⟨i + 1, a6, c6, QQ ++ [mi], by omega, by go_num, HQ1.out, by rw [List.length_append]; rfl, by rw [List.length_append]; exact O5.out, K5.out⟩
          case measure => simp [intOf]; omega
        case neg =>
          obtain rfl : i = L2.length := by omega
          go_wp2_with fail
          go_ret
          have HQe := HQ.out
          rw [List.take_length] at HQe
          exact ⟨_, rfl, by rw [← HQe]; exact HO.out, HK.out.below⟩
end Go.Proofs.YtndfhpfhgdamgaaGreatDoor.Cn
