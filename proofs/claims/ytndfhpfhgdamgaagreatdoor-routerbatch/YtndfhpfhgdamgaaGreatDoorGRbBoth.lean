import Derived.Test.YtndfhpfhgdamgaaGreatDoorGRbSame
import Derived.Test.YtndfhpfhgdamgaaGreatDoorGCaBase
namespace Go.Proofs.YtndfhpfhgdamgaaGreatDoor.Cn
open Go.RowKit
theorem goM_id {now : Int} {g : Gt} {x : Mg} (h : x ∈ goM now g) : x.id = g.tk := by
  unfold goM at h
  split at h
  · simp at h
  · rw [List.mem_singleton.1 h]; rfl
theorem takeM_id {gs : List Gt} {now : Int} {m x : Mg} (h : x ∈ takeM gs now m) : ∃ g ∈ gs, x.id = g.tk := by
  unfold takeM at h
  cases hA : ansG gs m with
  | none => rw [hA] at h; simp at h
  | some g =>
    rw [hA] at h
    simp only [hearM] at h
    split at h
    · simp at h
    · split at h
      · exact ⟨g, (ansG_mem hA).1, goM_id h⟩
      · simp at h
theorem takeM_len (gs : List Gt) (now : Int) (m : Mg) : (takeM gs now m).length ≤ 1 := by
  unfold takeM
  split
  · simp
  · unfold hearM
    split
    · simp
    · split
      · exact goM_len _ _
      · simp
theorem takeO_len (gs : List Gt) (m : Mg) : (takeO gs m).length ≤ 1 := by
  unfold takeO
  split
  · simp
  · unfold hearE
    split
    · simp
    · split
      · simp
      · split
        · exact goE_len _
        · simp
theorem all_id (now : Int) {lo hi : Int} : ∀ (T : List Int) (s : Tk), (∀ g ∈ s.gs, lo ≤ g.tk ∧ g.tk ≤ hi) → (∀ x ∈ s.L, lo ≤ x.id ∧ x.id ≤ hi) → ∀ x ∈ (tkAll now s T).L, lo ≤ x.id ∧ x.id ≤ hi
  | [], _, _, h2 => h2
  | t :: r, s, h1, h2 => by
    refine all_id now r (tkStep now s t) ?_ ?_
    · unfold tkStep
      cases hf : findG s.gs t with
      | none => exact h1
      | some g =>
        intro g' hg'
        replace hg' : g' ∈ goG s.gs now g := hg'
        unfold goG at hg'
        split at hg'
        · exact h1 g' (List.mem_filter.1 hg').1
        · obtain ⟨g0, m1, m2⟩ := List.mem_map.1 hg'
          have : g'.tk = g0.tk := by rw [← m2]; split <;> rfl
          rw [this]
          exact h1 g0 m1
    · unfold tkStep
      cases hf : findG s.gs t with
      | none => exact h2
      | some g =>
        intro x hx
        rcases List.mem_append.1 hx with q | q
        · exact h2 x q
        · rw [goM_id q]
          exact h1 g (findG_mem hf).1
theorem pingL_len (v : Rv) (wait : Int) (n : Nat) : (pingL v wait n).length ≤ n := by
  unfold pingL
  split
  · exact pings_len _ _ _
  · simp
theorem pingL_id {v : Rv} {wait : Int} {n : Nat} {x : Mg} (h : x ∈ pingL v wait n) : x.id = v.now := by
  unfold pingL at h
  split at h
  · unfold pings at h
    obtain ⟨q, _, e⟩ := List.mem_map.1 h
    rw [← e]; rfl
  · simp at h
noncomputable def tickL (c : Cl) (gs : List Gt) (v : Rv) : List Mg := (tickK c gs v).L ++ pingL ⟨(tickK c gs v).d, v.now + 1, v.last⟩ (c.x 17) c.ns.length

theorem own_base2 {w : World} {b0 b1 e sz n : Nat} {v : Value} {xs : List Value} (h : w.ownsRow b1 e sz v n xs) (hb : b0 ≤ b1) : w.ownsRow b0 e sz v n xs := by
  obtain ⟨h1, h2⟩ := h
  refine ⟨h1, ?_⟩
  rcases h2 with h2 | ⟨g, cap, cur, e1, e2, e3⟩
  · exact Or.inl h2
  · exact Or.inr ⟨g, cap, cur, e1, Nat.le_trans hb e2, e3⟩
theorem does_now2 (d : Dt) (k : Int) : (d.does 2 k).now = d.now := by
  unfold Dt.does
  rw [if_neg (by decide), if_pos rfl]
  split <;> rfl
theorem all_now (now : Int) : ∀ (T : List Int) (s : Tk), (tkAll now s T).d.now = s.d.now
  | [], _ => rfl
  | t :: r, s => by
    show (tkAll now (tkStep now s t) r).d.now = _
    rw [all_now now r]
    unfold tkStep
    split
    · rfl
    · exact does_now2 _ _
/-- both stand alike behind n steps -/
def Al (W : World) (Ra Rb Ba Bb : Nat) (c : Cl) (n : Nat) (L : List Mg) (wr : World) : Prop := ∃ Sa Sb Pa Pb v vw WL, Two W Ra Rb Ba Bb c wr Sa Sb Pa Pb v v vw WL ∧ Pa.map (·.g) = Pb.map (·.g) ∧ Ok c (Pa.map (·.g)) v (65 * (n + 1)) ∧ v.now ≤ (n : Int) ∧ v.d.now ≤ (n : Int) ∧ v.last ≤ 1000 ∧ (WL ++ L).length ≤ 100 * (n + 2) ∧ ∀ x ∈ WL ++ L, 0 ≤ x.id ∧ x.id ≤ 1000 + (n : Int)
section
variable {W wr w' : World} {Ra Rb Ba Bb : Nat} {c : Cl} {n : Nat} {L : List Mg}
theorem Al.kp (h : Al W Ra Rb Ba Bb c n L wr) (hk : Kp wr w' non) : Al W Ra Rb Ba Bb c n L w' := by
  obtain ⟨Sa, Sb, Pa, Pb, v, vw, WL, t, r⟩ := h
  exact ⟨Sa, Sb, Pa, Pb, v, vw, WL, t.kp hk, r⟩
theorem Al.below (h : Al W Ra Rb Ba Bb c n L wr) : Below W.heap.size W wr := by
  obtain ⟨Sa, Sb, Pa, Pb, v, vw, WL, t, r⟩ := h
  exact t.be
theorem Al.cells (h : Al W Ra Rb Ba Bb c n L wr) : wr.cell? ⟨Ba, 0, none⟩ = some (.pointer (some ⟨Ra, 0, none⟩)) ∧ wr.cell? ⟨Bb, 0, none⟩ = some (.pointer (some ⟨Rb, 0, none⟩)) ∧ wr.frozen? ⟨Ba, 1, none⟩ = false := by
  obtain ⟨Sa, Sb, Pa, Pb, v, vw, WL, t, r⟩ := h
  obtain ⟨vk, vd, ha⟩ := t.da
  obtain ⟨x, y, z, hb⟩ := t.db
  rw [cell_row ha, cell_row hb]
  exact ⟨rfl, rfl, fz_row ha 1⟩
theorem Al.opens (h : Al W Ra Rb Ba Bb c n L wr) : ∃ m : Nat, (∀ X, Kp wr X non → Calls Tryz.prog 17 #[.pointer (some ⟨Ra, 0, none⟩)] X fun e w' => e = .returned (.int .i64 (m : Int)) ∧ X = w') ∧ ∀ X, Kp wr X non → Calls Tryz.prog 17 #[.pointer (some ⟨Rb, 0, none⟩)] X fun e w' => e = .returned (.int .i64 (m : Int)) ∧ X = w' := by
  obtain ⟨Sa, Sb, Pa, Pb, v, vw, WL, t, e, r⟩ := h
  refine ⟨Pa.length, fun X k => Open_any (t.kp k).ra, fun X k => ?_⟩
  have hl : Pa.length = Pb.length := by have := congrArg List.length e; simpa using this
  rw [hl]
  exact Open_any (t.kp k).rb
/-- the messages are laid with those that went -/
theorem Al.joined (h : Al W Ra Rb Ba Bb c n L wr) {b0 : Nat} {x : Value} (hx : wr.ownsRow b0 58 11 x L.length (mgs L)) (hn : n ≤ 3000000000) : ∃ vw, wr.cell? ⟨Ba, 1, none⟩ = some vw ∧ Calls Tryz.prog 25 #[vw, x] wr fun e w' => ∃ a l cp, e = .returned (.slice a l cp) ∧ w'.cell? ⟨Ba, 1, none⟩ = some vw ∧ w'.frozen? ⟨Ba, 1, none⟩ = false ∧ w'.cell? ⟨Ba, 0, none⟩ = some (.pointer (some ⟨Ra, 0, none⟩)) ∧ Al W Ra Rb Ba Bb c n [] (w'.setCell ⟨Ba, 1, none⟩ (.slice a l cp)) := by
  obtain ⟨Sa, Sb, Pa, Pb, v, vw, WL, t, e, ok, h1, h2, h3, h4, h5⟩ := h
  obtain ⟨vk, vd, ha⟩ := t.da
  refine ⟨vw, by rw [cell_row ha]; rfl, Calls.mono (joined_any t.wt hx (by rw [List.length_append] at h4; omega)) ?_⟩
  rintro e' w' ⟨v', rfl, ho, hb⟩
  obtain ⟨a, cp, hv⟩ := own_sl ho
  subst hv
  have t' := t.kp (Kp.of_below hb non)
  obtain ⟨vk', vd', ha'⟩ := t'.da
  refine ⟨a, _, cp, rfl, by rw [cell_row ha']; rfl, fz_row ha' 1, by rw [cell_row ha']; rfl, Sa, Sb, Pa, Pb, v, _, WL ++ L, t'.went (own_base2 ho t.sz), e, ok, h1, h2, h3, ?_, ?_⟩
  · rw [List.append_nil]; exact h4
  · rw [List.append_nil]; exact h5
theorem Al.ticks (h : Al W Ra Rb Ba Bb c n [] wr) (hn : n ≤ 3000000000) :
    Calls Tryz.prog 27 #[.pointer (some ⟨Ra, 0, none⟩)] wr fun e w1 => ∃ x y, e = .returned (.tuple #[x, y, .int .i64 0]) ∧ w1.cell? ⟨Bb, 0, none⟩ = some (.pointer (some ⟨Rb, 0, none⟩)) ∧ Calls Tryz.prog 27 #[.pointer (some ⟨Rb, 0, none⟩)] w1 fun e w2 => ∃ u z L E b1 b2 b3 b4, e = .returned (.tuple #[u, z, .int .i64 0]) ∧ w2.ownsRow b1 58 11 x L.length (mgs L) ∧ w2.ownsRow b2 58 11 u L.length (mgs L) ∧ w2.ownsRow b3 96 6 y E.length (ocs E) ∧ w2.ownsRow b4 96 6 z E.length (ocs E) ∧ L.length ≤ 100 ∧ E.length ≤ 100 ∧ Al W Ra Rb Ba Bb c (n + 1) L w2 := by
  obtain ⟨Sa, Sb, Pa, Pb, v, vw, WL, t, e, ok, h1, h2, h3, h4, h5⟩ := h
  have hd := due_len (v.now + 1) (c.x 17) (Pa.map (·.g))
  have al := all_len (s := ⟨Pa.map (·.g), v.d.tick, [], []⟩) (now := v.now + 1) (dueT (v.now + 1) (c.x 17) (Pa.map (·.g)))
  have hgl := ok.len
  have h16 : c.ns.length ≤ 16 := by rw [← ok.dn]; exact ok.up.ft.n16
  have hn0 := ok.now0
  have okt := ok.tick
  refine Calls.mono (Tick_r t.ra ok (by omega) (by omega) (by omega) (by omega)) ?_
  rintro e1 w1 ⟨Sa', Pa', x, y, rfl, r1, g1, o1, n1, k1, s1⟩
  have t1 := t.callA k1 r1 (fun k q => Or.inl (s1 k q))
  obtain ⟨_, _, _, hb1⟩ := t1.db
  refine ⟨x, y, rfl, by rw [cell_row hb1]; rfl, ?_⟩
  have okb : Ok c (Pb.map (·.g)) v (65 * (n + 1)) := by rw [← e]; exact ok
  refine Calls.mono (Tick_r t1.rb okb (by omega) (by omega) (by omega) (by omega)) ?_
  rintro e2 w2 ⟨Sb', Pb', u, z, rfl, r2, g2, o2, n2, k2, s2⟩
  rw [← e] at r2 g2 o2 n2
  have t2 := t1.callB k2 r2 (fun k q => Or.inl (s2 k q))
  have pl := pingL_len ⟨(tickK c (Pa.map (·.g)) v).d, v.now + 1, v.last⟩ (c.x 17) c.ns.length
  have a1 := al.1
  have a2 := al.2.1
  simp only [List.length_nil] at a1 a2
  have tl : (tickK c (Pa.map (·.g)) v).L.length ≤ 64 := by unfold tickK; omega
  have te : (tickK c (Pa.map (·.g)) v).E.length ≤ 64 := by unfold tickK; omega
  have dnow : (tickK c (Pa.map (·.g)) v).d.now = v.d.now + 1 := all_now _ _ _
  refine ⟨u, z, _, _, _, _, _, _, rfl, own_kp o1 k2 (fun j ej q => ?_), o2, own_kp n1 k2 (fun j ej q => ?_), n2, by rw [List.length_append]; omega, by omega, Sa', Sb', Pa', Pb', _, vw, WL, t2, g1.trans g2.symm, by rw [g1]; exact okt.more2 (by rw [List.length_map]; rw [List.length_map] at hgl; omega), by show v.now + 1 ≤ _; omega, by show (tickK c (Pa.map (·.g)) v).d.now ≤ _; rw [dnow]; omega, h3, ?_, fun m hm => ?_⟩
  · obtain ⟨cur, hc⟩ := own_typ o1 ej
    exact t1.rb.not hc (by decide) q
  · obtain ⟨cur, hc⟩ := own_typ n1 ej
    exact t1.rb.not hc (by decide) q
  · rw [List.append_nil] at h4
    rw [List.length_append, List.length_append]
    omega
  · rw [List.append_nil] at h5
    rcases List.mem_append.1 hm with q | q
    · have := h5 m q
      omega
    · rcases List.mem_append.1 q with q | q
      · have := all_id (v.now + 1) (lo := 1) (hi := v.last) (dueT (v.now + 1) (c.x 17) (Pa.map fun p : Gp => p.g)) ⟨Pa.map fun p : Gp => p.g, v.d.tick, [], []⟩ ok.tks (fun x hx => absurd hx (by simp)) m q
        omega
      · have := pingL_id q
        simp only at this
        omega
theorem Al.takes (h : Al W Ra Rb Ba Bb c n [] wr) (hn : n ≤ 3000000000) (m : Mg) (hid : tkOk m.id) :
    ∃ L E er, L.length ≤ 100 ∧ E.length ≤ 100 ∧ ∀ X0, Kp wr X0 non → Calls Tryz.prog 30 #[.pointer (some ⟨Ra, 0, none⟩), .agg (mgV m)] X0 fun e w1 => ∃ x y, e = .returned (.tuple #[x, y, .int .i64 er]) ∧ Kp X0 w1 (fun k => ∃ t, X0.heap[k]? = some t ∧ RtKind t) ∧ ∀ X, Kp w1 X non → Calls Tryz.prog 30 #[.pointer (some ⟨Rb, 0, none⟩), .agg (mgV m)] X fun e w2 => ∃ u z b1 b2 b3 b4, e = .returned (.tuple #[u, z, .int .i64 er]) ∧ w2.ownsRow b1 58 11 x L.length (mgs L) ∧ w2.ownsRow b2 58 11 u L.length (mgs L) ∧ w2.ownsRow b3 96 6 y E.length (ocs E) ∧ w2.ownsRow b4 96 6 z E.length (ocs E) ∧ Al W Ra Rb Ba Bb c (n + 1) L w2 ∧ Kp X w2 (fun k => ∃ t, X.heap[k]? = some t ∧ RtKind t) := by
  obtain ⟨Sa, Sb, Pa, Pb, v, vw, WL, t, e, ok, h1, h2, h3, h4, h5⟩ := h
  have okb : Ok c (Pb.map (·.g)) v (65 * (n + 1)) := by rw [← e]; exact ok
  rw [List.append_nil] at h4 h5
  have same : ∀ {w2 : World} {Sa2 Sb2 : Nat → Prop}, Two W Ra Rb Ba Bb c w2 Sa2 Sb2 Pa Pb v v vw WL → Al W Ra Rb Ba Bb c (n + 1) [] w2 := fun t2 => ⟨_, _, Pa, Pb, v, vw, WL, t2, e, ok.more2 (by omega), by omega, by omega, h3, by rw [List.append_nil]; omega, by rw [List.append_nil]; exact fun x hx => by have := h5 x hx; omega⟩
  by_cases hm : m.td ≠ 65 ∨ (m.kind ≠ 12 ∧ m.kind ≠ 2)
  · refine ⟨[], [], 1, by simp, by simp, fun X0 k0 => Calls.mono (Take_arg (t.kp k0).ra m hm) ?_⟩
    rintro e1 w1 ⟨rfl, k1⟩
    have t1 := (t.kp k0).kp k1
    refine ⟨_, _, rfl, k1.mono (fun _ f => f.elim), fun X k => Calls.mono (Take_arg (t1.kp k).rb m hm) ?_⟩
    rintro e2 w2 ⟨rfl, k2⟩
    exact ⟨_, _, 0, 0, 0, 0, rfl, World.ownsRow_nil _ _ _ _, World.ownsRow_nil _ _ _ _, World.ownsRow_nil _ _ _ _, World.ownsRow_nil _ _ _ _, same ((t1.kp k).kp k2), k2.mono (fun _ f => f.elim)⟩
  · by_cases hf : 0 ≤ m.fr ∧ m.fr < (v.d.n : Int)
    · have l1 := takeM_len (Pa.map (·.g)) v.now m
      have l2 := takeO_len (Pa.map (·.g)) m
      refine ⟨takeM (Pa.map (·.g)) v.now m, takeO (Pa.map (·.g)) m, 0, by omega, by omega, fun X0 k0 => Calls.mono (Take_any (t.kp k0).ra ok (by omega) m hid hm hf) ?_⟩
      rintro e1 w1 ⟨Sa', Pa', x, y, rfl, r1, g1, o1, n1, k1, s1⟩
      have t1 := (t.kp k0).callA k1 r1 (fun k q => Or.inl (s1 k q))
      refine ⟨x, y, rfl, k1.mono (fun k q => (t.kp k0).ra.kind q), fun X k => Calls.mono (Take_any (t1.kp k).rb okb (by omega) m hid hm hf) ?_⟩
      rintro e2 w2 ⟨Sb', Pb', u, z, rfl, r2, g2, o2, n2, k2, s2⟩
      rw [← e] at g2 o2 n2
      have t2 := (t1.kp k).callB k2 r2 (fun k q => Or.inl (s2 k q))
      have oX := own_kp o1 k (fun _ _ f => f)
      have nX := own_kp n1 k (fun _ _ f => f)
      refine ⟨u, z, _, _, _, _, rfl, own_kp oX k2 (fun j ej q => ?_), o2, own_kp nX k2 (fun j ej q => ?_), n2, ⟨Sa', Sb', Pa', Pb', _, vw, WL, t2, g1.trans g2.symm, by rw [g1]; exact (ok.take m).more2 (by omega), by show v.now ≤ _; omega, by show v.d.now ≤ _; omega, h3, ?_, fun x hx => ?_⟩, k2.mono (fun j q => (t1.kp k).rb.kind q)⟩
      · obtain ⟨cur, hc⟩ := own_typ oX ej
        exact (t1.kp k).rb.not hc (by decide) q
      · obtain ⟨cur, hc⟩ := own_typ nX ej
        exact (t1.kp k).rb.not hc (by decide) q
      · rw [List.length_append]; omega
      · rcases List.mem_append.1 hx with q | q
        · have := h5 x q
          omega
        · obtain ⟨g, hg, r⟩ := takeM_id q
          have := ok.tks g hg
          omega
    · refine ⟨[], [], 68, by simp, by simp, fun X0 k0 => Calls.mono (Take_node (t.kp k0).ra ok.up.ft m hm hf) ?_⟩
      rintro e1 w1 ⟨rfl, r1, k1⟩
      have t1 := (t.kp k0).callA k1 r1 (fun k q => Or.inl q)
      refine ⟨_, _, rfl, k1.mono (fun k q => (t.kp k0).ra.kind q), fun X k => Calls.mono (Take_node (t1.kp k).rb ok.up.ft m hm hf) ?_⟩
      rintro e2 w2 ⟨rfl, r2, k2⟩
      exact ⟨_, _, 0, 0, 0, 0, rfl, World.ownsRow_nil _ _ _ _, World.ownsRow_nil _ _ _ _, World.ownsRow_nil _ _ _ _, World.ownsRow_nil _ _ _ _, same ((t1.kp k).callB k2 r2 (fun k q => Or.inl q)), k2.mono (fun j q => (t1.kp k).rb.kind q)⟩
end
end Go.Proofs.YtndfhpfhgdamgaaGreatDoor.Cn
namespace Go.Proofs.YtndfhpfhgdamgaaGreatDoor.Cn
open Go.RowKit
noncomputable def v1 (c : Cl) : Rv := { rv0 c with last := 0 + 1 }
theorem ok1 {c : Cl} (he : errP c.st c.x c.ns = 0) (hs : c.st.size ≤ 9223372036854775807) : Ok c [gtF c] (v1 c) 0 := by
  have := (rv_ok (st := c.st) (x := c.x) (ns := c.ns) he hs).opened [fst] (by simp)
  exact this
/-- behind the batch at one, and i gets at the other -/
def Bs (W : World) (Ra Rb Ba Bb : Nat) (c : Cl) (ks : List ByteArray) (i : Nat) (wr : World) : Prop := ∃ Sa Sb Pa Pb vw WL, Two W Ra Rb Ba Bb c wr Sa Sb Pa Pb { v1 c with last := 1 + (ks.length : Int) } { v1 c with last := 1 + (i : Int) } vw WL ∧ Pa.map (·.g) = [gtF c] ++ opG c (v1 c) ks (1 + 1) ∧ Pb.map (·.g) = [gtF c] ++ opG c (v1 c) (ks.take i) (1 + 1)
/-- two desks -/
def Z0 (W : World) (Ra Rb Ba Bb : Nat) (c : Cl) (wr : World) : Prop := ∃ Sa Sb Pa Pb vw WL, Two W Ra Rb Ba Bb c wr Sa Sb Pa Pb (v1 c) (v1 c) vw WL ∧ Pa.map (·.g) = [gtF c] ∧ Pb.map (·.g) = [gtF c]
section
variable {W wr w' : World} {Ra Rb Ba Bb : Nat} {c : Cl} {ks : List ByteArray}
theorem Z0.kp (h : Z0 W Ra Rb Ba Bb c wr) (hk : Kp wr w' non) : Z0 W Ra Rb Ba Bb c w' := by
  obtain ⟨Sa, Sb, Pa, Pb, vw, WL, t, r⟩ := h
  exact ⟨Sa, Sb, Pa, Pb, vw, WL, t.kp hk, r⟩
theorem Bs.kp {i : Nat} (h : Bs W Ra Rb Ba Bb c ks i wr) (hk : Kp wr w' non) : Bs W Ra Rb Ba Bb c ks i w' := by
  obtain ⟨Sa, Sb, Pa, Pb, vw, WL, t, r⟩ := h
  exact ⟨Sa, Sb, Pa, Pb, vw, WL, t.kp hk, r⟩
theorem Bs.below {i : Nat} (h : Bs W Ra Rb Ba Bb c ks i wr) : Below W.heap.size W wr := by
  obtain ⟨Sa, Sb, Pa, Pb, vw, WL, t, r⟩ := h
  exact t.be
theorem Bs.cells {i : Nat} (h : Bs W Ra Rb Ba Bb c ks i wr) : wr.cell? ⟨Bb, 0, none⟩ = some (.pointer (some ⟨Rb, 0, none⟩)) ∧ wr.frozen? ⟨Ba, 1, none⟩ = false ∧ ∃ vw, wr.cell? ⟨Ba, 1, none⟩ = some vw := by
  obtain ⟨Sa, Sb, Pa, Pb, vw, WL, t, r⟩ := h
  obtain ⟨vk, vd, ha⟩ := t.da
  obtain ⟨x, y, z, hb⟩ := t.db
  rw [cell_row hb]
  exact ⟨rfl, fz_row ha 1, vw, by rw [cell_row ha]; rfl⟩
theorem Z0.cells (h : Z0 W Ra Rb Ba Bb c wr) : wr.cell? ⟨Ba, 0, none⟩ = some (.pointer (some ⟨Ra, 0, none⟩)) := by
  obtain ⟨Sa, Sb, Pa, Pb, vw, WL, t, r⟩ := h
  obtain ⟨vk, vd, ha⟩ := t.da
  rw [cell_row ha]
  rfl
theorem Z0.below (h : Z0 W Ra Rb Ba Bb c wr) : Below W.heap.size W wr := by
  obtain ⟨Sa, Sb, Pa, Pb, vw, WL, t, r⟩ := h
  exact t.be
theorem Z0.open1 (h : Z0 W Ra Rb Ba Bb c wr) : Calls Tryz.prog 17 #[.pointer (some ⟨Ra, 0, none⟩)] wr fun e w' => e = .returned (.int .i64 1) ∧ wr = w' := by
  obtain ⟨Sa, Sb, Pa, Pb, vw, WL, t, e, r⟩ := h
  have := Open_any t.ra
  have hl : Pa.length = 1 := by have := congrArg List.length e; simpa using this
  rw [hl] at this
  exact this
theorem Z0.no (h : Z0 W Ra Rb Ba Bb c wr) (ao : Option Addr) (b o cap : Nat) (hk : KsAt wr ao b o ks) (h0 : mayE 1 ks ≠ 0) : Calls Tryz.prog 23 #[.pointer (some ⟨Ra, 0, none⟩), .slice ao ks.length cap] wr fun e w' => e = .returned (.tuple #[.int .i64 0, .slice none 0 0, .int .i64 (mayE 1 ks)]) ∧ wr = w' := by
  obtain ⟨Sa, Sb, Pa, Pb, vw, WL, t, e, r⟩ := h
  have hl : Pa.length = 1 := by have := congrArg List.length e; simpa using this
  have := GetAll_no t.ra (by omega) ao b o cap ks hk (Or.inl (by rw [hl]; exact h0))
  rw [hl] at this
  exact this
theorem Z0.all (h : Z0 W Ra Rb Ba Bb c wr) (he : errP c.st c.x c.ns = 0) (hs : c.st.size ≤ 9223372036854775807) (hT : TabD wr) (h3 : 3 ≤ W.heap.size) (ao : Option Addr) (b o cap : Nat) (hk : KsAt wr ao b o ks) (hb : 0 < ks.length → ∀ S R P v, RtAt wr S R c P v → ¬ S b) (h0 : mayE 1 ks = 0) :
    Calls Tryz.prog 23 #[.pointer (some ⟨Ra, 0, none⟩), .slice ao ks.length cap] wr fun e w' => ∃ t vo b1, e = .returned (.tuple #[.int .i64 t, vo, .int .i64 0]) ∧ (0 < ks.length → t = 2) ∧ w'.ownsRow b1 58 11 vo ((opG c (v1 c) ks (1 + 1)).map getMg).length (mgs ((opG c (v1 c) ks (1 + 1)).map getMg)) ∧ W.heap.size ≤ b1 ∧ Bs W Ra Rb Ba Bb c ks 0 w' ∧ KsAt w' ao b o ks := by
  obtain ⟨Sa, Sb, Pa, Pb, vw, WL, t, e, e2⟩ := h
  have hl : Pa.length = 1 := by have := congrArg List.length e; simpa using this
  by_cases hz : ks = []
  · subst hz
    refine Calls.mono (GetAll_no t.ra (by omega) ao b o cap [] hk (Or.inr rfl)) ?_
    rintro e' w' ⟨rfl, rfl⟩
    refine ⟨0, _, W.heap.size, by rw [hl, h0], fun q => absurd q (by simp), World.ownsRow_nil _ _ _ _, Nat.le_refl _, ⟨Sa, Sb, Pa, Pb, vw, WL, t, by rw [e]; rfl, by rw [e2]; rfl⟩, hk⟩
  · have hp : 0 < ks.length := List.length_pos_iff.2 hz
    refine Calls.mono (GetAll_any t.ra (m := 0) (by rw [e]; exact ok1 he hs) hT (fun j q => Nat.le_trans h3 (t.ga j q)) (by show (0 : Int) + 1 ≤ _; omega) ao b o cap ks hk (fun _ => hb hp _ _ _ _ t.ra) (by rw [hl]; exact h0) hz) ?_
    rintro e' w' ⟨S', P', vo, rfl, r1, g1, o1, k1, s1⟩
    refine ⟨_, vo, _, rfl, fun _ => rfl, by rw [List.length_map]; exact o1, t.sz, ⟨S', Sb, P', Pb, vw, WL, t.callA k1 r1 s1, by rw [g1, e]; rfl, by rw [e2]; rfl⟩, hk.kp k1 (fun _ => hb hp _ _ _ _ t.ra)⟩
/-- a get of the next key -/
theorem Bs.get {i : Nat} (h : Bs W Ra Rb Ba Bb c ks i wr) (he : errP c.st c.x c.ns = 0) (hs : c.st.size ≤ 9223372036854775807) (hT : TabD W) (h3 : 3 ≤ W.heap.size) (hi : i < ks.length) (h0 : mayE 1 ks = 0) (hks : ks[i].size ≤ 9223372036854775807) :
    ∀ X, Kp wr X non → Calls Tryz.prog 13 #[.pointer (some ⟨Rb, 0, none⟩), .string ks[i]] X fun e w' => ∃ vo mm b1, e = .returned (.tuple #[.int .i64 (2 + (i : Int)), vo, .int .i64 0]) ∧ w'.ownsRow b1 58 11 vo [mm].length (mgs [mm]) ∧ (opG c (v1 c) (ks.take (i + 1)) (1 + 1)).map getMg = (opG c (v1 c) (ks.take i) (1 + 1)).map getMg ++ [mm] ∧ Bs W Ra Rb Ba Bb c ks (i + 1) w' ∧ Kp X w' (fun k => ∃ o, X.heap[k]? = some o ∧ RtKind o) := by
  intro X kx
  obtain ⟨Sa, Sb, Pa, Pb, vw, WL, t0, e, e2⟩ := h
  have t := t0.kp kx
  have hmay : ks.any badK = false ∧ 1 + ks.length ≤ 64 := by
    unfold mayE at h0
    cases hb : ks.any badK
    · rw [hb] at h0
      simp at h0
      exact ⟨rfl, by omega⟩
    · rw [hb] at h0
      simp at h0
  have hbad : badK ks[i] = false := by
    have := List.any_eq_false.1 hmay.1 ks[i] (List.getElem_mem hi)
    simpa using this
  have hpl : Pb.length = 1 + i := by
    have := congrArg List.length e2
    rw [List.length_map, List.length_append, opG_len, List.length_take] at this
    simp only [List.length_singleton] at this
    omega
  have okb : Ok c (Pb.map (·.g)) { v1 c with last := 1 + (i : Int) } 0 := by
    have := (ok1 he hs).opened (ks.take i) (by rw [List.length_take]; simp; omega)
    rw [e2]
    rw [List.length_take, Nat.min_eq_left (by omega)] at this
    exact this
  have hTX : TabD X := tab_kp hT (Kp.of_below t.be non) (fun _ f => f.elim)
  refine Calls.mono (Get_any t.rb okb hTX (fun j q => Nat.le_trans h3 (t.gb j q)) (by show (1 : Int) + (i : Int) ≤ _; omega) ks[i] hks (by
    unfold mayE
    rw [if_neg (by simp [hbad]), if_neg (by rw [hpl]; simp; omega)])) ?_
  rintro e' w' ⟨S', P', vo, rfl, r1, g1, o1, k1, s1⟩
  have ht : ks.take (i + 1) = ks.take i ++ [ks[i]] := by rw [List.take_add_one, List.getElem?_eq_getElem hi]; rfl
  have hop : opG c (v1 c) (ks.take (i + 1)) (1 + 1) = opG c (v1 c) (ks.take i) (1 + 1) ++ opG c { v1 c with last := 1 + (i : Int) } [ks[i]] (1 + (i : Int) + 1) := by
    rw [ht, opG_app, List.length_take, Nat.min_eq_left (by omega)]
    show _ ++ [_] = _ ++ [_]
    rw [show (1 : Int) + 1 + (i : Int) = 1 + (i : Int) + 1 by omega]
  refine ⟨vo, getMg ⟨1 + (i : Int) + 1, ks[i], ordL (v1 c).d (baseOf c ks[i]), 1, (v1 c).now⟩, _, by rw [show (2 : Int) + (i : Int) = 1 + (i : Int) + 1 by omega], o1, by rw [hop, List.map_append]; rfl, ⟨Sa, S', Pa, P', vw, WL, ?_, e, ?_⟩, k1.mono (fun k q => t.rb.kind q)⟩
  · have := t.callB k1 r1 s1
    rw [show (((i + 1 : Nat)) : Int) = (i : Int) + 1 by omega, ← Int.add_assoc]
    exact this
  · rw [g1, e2, hop, List.append_assoc]
/-- both stand alike -/
theorem Bs.al (h : Bs W Ra Rb Ba Bb c ks ks.length wr) (he : errP c.st c.x c.ns = 0) (hs : c.st.size ≤ 9223372036854775807) (h0 : mayE 1 ks = 0) {b1 : Nat} {u : Value} (ho : wr.ownsRow b1 58 11 u ((opG c (v1 c) ks (1 + 1)).map getMg).length (mgs ((opG c (v1 c) ks (1 + 1)).map getMg))) (hb : W.heap.size ≤ b1) : Al W Ra Rb Ba Bb c 0 [] (wr.setCell ⟨Ba, 1, none⟩ u) := by
  obtain ⟨Sa, Sb, Pa, Pb, vw, WL, t, e, e2⟩ := h
  have h64 : 1 + ks.length ≤ 64 := by
    unfold mayE at h0
    split at h0
    · simp at h0
    · split at h0
      · simp at h0
      · omega
  rw [List.take_length] at e2
  have ok := (ok1 he hs).opened ks (by simp; omega)
  refine ⟨Sa, Sb, Pa, Pb, _, u, _, t.went (own_base ho hb), e.trans e2.symm, by rw [e]; exact ok.more2 (by omega), by show (0 : Int) ≤ _; omega, by show (0 : Int) ≤ _; omega, by show (1 : Int) + (ks.length : Int) ≤ _; omega, ?_, fun x hx => ?_⟩
  · rw [List.append_nil, List.length_map, opG_len]
    omega
  · rw [List.append_nil] at hx
    obtain ⟨g, hg, rfl⟩ := List.mem_map.1 hx
    obtain ⟨i, hi, rfl⟩ := opG_at c (v1 c) ks _ g hg
    show 0 ≤ 1 + 1 + (i : Int) ∧ 1 + 1 + (i : Int) ≤ _
    omega
end
end Go.Proofs.YtndfhpfhgdamgaaGreatDoor.Cn
namespace Go.Proofs.YtndfhpfhgdamgaaGreatDoor.Cn
open Go.RowKit
theorem ks_own {w : World} {base cap : Nat} {a : Option Addr} {ks : List ByteArray} (h : w.ownsRow base 9 1 (.slice a ks.length cap) ks.length (txs ks)) (hs : ∀ k ∈ ks, k.size ≤ 9223372036854775807) (hl : ks.length ≤ 1000000000000000) : ∃ b o, KsAt w a b o ks ∧ (0 < ks.length → ∃ A, w.heap[b]? = some (.cells A 9)) := by
  by_cases h0 : 0 < ks.length
  · obtain ⟨g, gc, hg⟩ := own_g h h0
    injection hg with hg _ hgc
    subst hg
    subst hgc
    obtain ⟨cur, hc⟩ := own_typ h (g := g) rfl
    exact ⟨g, 0, ⟨fun _ => rfl, fun i hi => by rw [Nat.zero_add, h.cellAt i (by omega), txs_at ks i hi], hl, hs⟩, fun _ => ⟨cur, hc⟩⟩
  · exact ⟨0, 0, ⟨fun q => absurd q h0, fun i hi => by omega, hl, hs⟩, fun q => absurd q h0⟩
set_option maxHeartbeats 16000000 in
set_option maxRecDepth 100000 in
set_option linter.unusedSimpArgs false in
set_option linter.unusedVariables false in
theorem texts_same {w : World} {a1 a2 : Option Addr} {b1 o1 c1 b2 o2 c2 : Nat} {ks : List ByteArray} (h1 : KsAt w a1 b1 o1 ks) (h2 : KsAt w a2 b2 o2 ks) (hl : ks.length ≤ 1000000000000000) :
    Calls Tryz.prog 24 #[.slice a1 ks.length c1, .slice a2 ks.length c2] w fun e w' => e = .returned (.bool true) ∧ Kp w w' non := by
  have H1 := hide h1
  have H2 := hide h2
  clear h1 h2
  go_enter Tryz.func24, Tryz.ntmps24
  go_wp2_with fail
  go_loopw [5] (fun vi wr => ∃ i q : Nat, wr = w.drewN q ∧ i ≤ ks.length ∧ vi = .int .i64 (i : Int)) (fun vi _ => ks.length - (intOf vi).toNat)
  case atStart => exact ⟨0, 0, rfl, Nat.zero_le _, rfl⟩
  case round =>
    obtain ⟨i, q, rfl, hi, rfl⟩ := hrel
    by_cases hin : i < ks.length
    case neg =>
      have hii : ¬ (i : Int) < (ks.length : Int) := by omega
      go_wp2_with fail
      go_ret
      exact ⟨rfl, (Kp.refl w non).drewN q⟩
    case pos =>
      have hii : (i : Int) < (ks.length : Int) := by omega
      have e1 := H1.out.cell i hin
      have e2 := H2.out.cell i hin
      obtain rfl := H1.out.at0 (by omega)
      obtain rfl := H2.out.at0 (by omega)
      generalize ks[i] = key at *
      go_wp2_with fail
      go_quiet (fail)
      go_wp2_with fail
      go_roundw
      case rel => exact ⟨i + 1, _, rfl, by omega, by go_num⟩
      case measure => simp [intOf]; omega
end Go.Proofs.YtndfhpfhgdamgaaGreatDoor.Cn
namespace Go.Proofs.YtndfhpfhgdamgaaGreatDoor.Cn
open Go.RowKit
theorem kp_setRow3 (W : World) (b : Nat) (A : Array Value) : Kp W (W.setRow b A) (fun j => j = b) := ⟨rfl, rfl, rfl, by simp [World.setRow], fun j _ hj => by simp only [World.setRow, Array.getElem?_modify]; rw [if_neg (fun e => hj e.symm)]⟩
section
variable {W wr w' : World} {Ra Rb Ba Bb : Nat} {c : Cl} {n : Nat} {L : List Mg}
theorem Al.desk (h : Al W Ra Rb Ba Bb c n L wr) : ∃ A, wr.heap[Ba]? = some (.cells A 63) := by
  obtain ⟨Sa, Sb, Pa, Pb, v, vw, WL, t, r⟩ := h
  obtain ⟨vk, vd, ha⟩ := t.da
  exact ⟨_, ha⟩
theorem Al.desk2 (h : Al W Ra Rb Ba Bb c n L wr) : ∃ A, wr.heap[Bb]? = some (.cells A 63) := by
  obtain ⟨Sa, Sb, Pa, Pb, v, vw, WL, t, r⟩ := h
  obtain ⟨x, y, z, hb⟩ := t.db
  exact ⟨_, hb⟩
theorem Al.later (h : Al W Ra Rb Ba Bb c n [] wr) : Al W Ra Rb Ba Bb c (n + 1) [] wr := by
  obtain ⟨Sa, Sb, Pa, Pb, v, vw, WL, t, e, ok, h1, h2, h3, h4, h5⟩ := h
  exact ⟨Sa, Sb, Pa, Pb, v, vw, WL, t, e, ok.more2 (by omega), by omega, by omega, h3, by omega, fun x hx => by have := h5 x hx; omega⟩
/-- the answer to one of the messages that went -/
theorem ans_two (h : Al W Ra Rb Ba Bb c n [] wr) (o : Op2) (ho : tkOk o.n) (hn : n ≤ 3000000000) : ∃ vw, wr.cell? ⟨Ba, 1, none⟩ = some vw ∧ ∃ mm okb, (Calls Tryz.prog 29 #[vw, .agg (opV o)] wr.drew fun e w' => e = .returned (.tuple #[.agg (mgV mm), .bool okb]) ∧ Kp wr.drew w' non) ∧ tkOk mm.id := by
  obtain ⟨Sa, Sb, Pa, Pb, v, vw, WL, t, e, ok, h1, h2, h3, h4, h5⟩ := h
  obtain ⟨vk, vd, ha⟩ := t.da
  rw [List.append_nil] at h4 h5
  refine ⟨vw, by rw [cell_row ha]; rfl, ?_⟩
  obtain ⟨a, cp, hvw⟩ := own_sl t.wt
  subst hvw
  by_cases h0 : 0 < WL.length
  · obtain ⟨g, cp', hg⟩ := own_g t.wt h0
    injection hg with hg _ hgc
    subst hg
    subst hgc
    obtain ⟨j, hj, hc⟩ := answer_any o (own_kp t.wt ((Kp.refl wr non).drew) (fun _ _ f => f)) h0 (by omega) ho
    refine ⟨ansM WL[j] o.m, true, hc, ?_⟩
    have hi := h5 _ (List.getElem_mem hj)
    have : (ansM WL[j] o.m).id = WL[j].id := by unfold ansM; split <;> rfl
    unfold tkOk
    rw [this]
    omega
  · have hz : WL = [] := List.eq_nil_of_length_eq_zero (by omega)
    subst hz
    exact ⟨mg0, false, answer_none o a cp, by unfold tkOk; show _ ≤ (0 : Int) ∧ (0 : Int) < _; omega⟩
theorem Al.wentlt (h : Al W Ra Rb Ba Bb c n L wr) {vw : Value} (hv : wr.cell? ⟨Ba, 1, none⟩ = some vw) : ∀ k, vw.ownBlock = some k → k < wr.heap.size := by
  obtain ⟨Sa, Sb, Pa, Pb, v, vw0, WL, t, r⟩ := h
  obtain ⟨vk, vd, ha⟩ := t.da
  have e : wr.cell? ⟨Ba, 1, none⟩ = some vw0 := by rw [cell_row ha]; rfl
  rw [e] at hv
  obtain rfl := Option.some.inj hv
  exact fun k hk => own_lt t.wt hk
/-- a block of another kind is written -/
theorem Al.ownrow (h : Al W Ra Rb Ba Bb c n L wr) {MB : Nat} {A : Array Value} (hk : Kp wr w' (fun j => j = MB)) (hM : wr.heap[MB]? = some (.cells A 58)) (hn : ∀ vw, wr.cell? ⟨Ba, 1, none⟩ = some vw → vw.ownBlock ≠ some MB) (hge : W.heap.size ≤ MB) : Al W Ra Rb Ba Bb c n L w' := by
  obtain ⟨Sa, Sb, Pa, Pb, v, vw, WL, t, r⟩ := h
  obtain ⟨vk, vd, ha⟩ := t.da
  obtain ⟨x, y, z, hb⟩ := t.db
  have n1 : Ba ≠ MB := fun e => by rw [e, hM] at ha; simp at ha
  have n2 : Bb ≠ MB := fun e => by rw [e, hM] at hb; simp at hb
  have hv := hn vw (by rw [cell_row ha]; rfl)
  refine ⟨Sa, Sb, Pa, Pb, v, vw, WL, ⟨t.ra.kp hk (fun j q e => t.ra.not hM (by decide) (e ▸ q)), t.rb.kp hk (fun j q e => t.rb.not hM (by decide) (e ▸ q)), t.ga, t.gb, t.ap, ⟨vk, vd, (hk.block _ (blk_lt ha) n1).trans ha⟩, ⟨x, y, z, (hk.block _ (blk_lt hb) n2).trans hb⟩, t.ne, t.bA, t.bB, own_kp t.wt hk (fun j e q => hv (q ▸ e)), t.be.trans (kpBelow hk (fun k e => by rw [e]; exact hge) t.sz)⟩, r⟩
end
theorem kind_no {t : TypeId} (ht : ¬ (t = 85 ∨ t = 121 ∨ t = 139 ∨ t = 87 ∨ t = 3)) {A : Array Value} {fr : Nat × Nat} {o : Obj} (h : some (Obj.cells A t fr) = some o) (hk : RtKind o) : False := by
  have e := Option.some.inj h
  subst e
  cases hk with
  | cells _ _ _ h' => exact ht h'
theorem keep_by {W w' : World} (hk : Kp W w' (fun k => ∃ o, W.heap[k]? = some o ∧ RtKind o)) {k : Nat} {A : Array Value} {t : TypeId} (h : W.heap[k]? = some (.cells A t)) (ht : ¬ (t = 85 ∨ t = 121 ∨ t = 139 ∨ t = 87 ∨ t = 3)) : w'.heap[k]? = some (.cells A t) :=
  (hk.block k (blk_lt h) (fun ⟨_, e1, e2⟩ => kind_no ht (h.symm.trans e1) e2)).trans h
end Go.Proofs.YtndfhpfhgdamgaaGreatDoor.Cn
namespace Go.Proofs.YtndfhpfhgdamgaaGreatDoor.Cn
open Go.RowKit
/-- a step of a script -/
structure Sp where
  k : Int
  n : Int
  v : Int
  m : Mg
def spV (s : Sp) : Array Value := #[.int .i64 s.k, .int .i64 s.n, .int .i64 s.v, .int .i64 s.m.kind, .int .i64 s.m.fr, .int .i64 s.m.td, .int .i64 s.m.id, .int .i64 s.m.ep, .int .i64 s.m.sq, .int .i64 s.m.ver, .int .i64 s.m.prev, .int .i64 s.m.code, .string s.m.key, .string s.m.val]
/-- rows of k cells that are handed in -/
structure RwAt {α : Type} (k : Nat) (V : α → Array Value) (N : Nat) (w : World) (ao : Option Addr) (b o : Nat) (L : List α) : Prop where
  at0 : 0 < L.length → ao = some ⟨b, o, none⟩
  lt : 0 < L.length → b < N
  c : ∀ (q : Nat) (h : q < L.length) (j : Nat) (u : Value), (V L[q])[j]? = some u → w.cell? ⟨b, o + q * k + j, none⟩ = some u
  len : L.length ≤ 9223372036854775807
theorem RwAt.below {α : Type} {k : Nat} {V : α → Array Value} {N : Nat} {w w' : World} {ao : Option Addr} {b o : Nat} {L : List α} (h : RwAt k V N w ao b o L) (hb : Below N w w') : RwAt k V N w' ao b o L :=
  ⟨h.at0, h.lt, fun q hq j u hj => (hb.cell (h.lt (by omega))).trans (h.c q hq j u hj), h.len⟩
theorem sp_one (s : Sp) : (spV s).all (·.oneCell') = true := by simp [spV, Value.oneCell']
end Go.Proofs.YtndfhpfhgdamgaaGreatDoor.Cn
