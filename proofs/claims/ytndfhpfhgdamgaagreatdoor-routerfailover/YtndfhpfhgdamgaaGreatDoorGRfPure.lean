import Derived.Test.YtndfhpfhgdamgaaGreatDoorGRfOk
import Derived.Test.YtndfhpfhgdamgaaGreatDoorRfSends
namespace Go.Proofs.YtndfhpfhgdamgaaGreatDoor.Cn
open Go.RowKit
theorem tick_not {c : Cl} {g : Gt} {v : Rv} (h : v.now + 1 - g.since ≠ c.x 17) : tickK c [g] v = ⟨[g], v.d.tick, [], []⟩ := by
  have e : dueT (v.now + 1) (c.x 17) [g] = [] := by simp [dueT, isDue, h]
  unfold tickK
  rw [e]
  rfl
theorem tick_due {c : Cl} {g : Gt} {v : Rv} (h : v.now + 1 - g.since = c.x 17) : tickK c [g] v = ⟨goG [g] (v.now + 1) g, v.d.tick.does 2 (lastA g), goM (v.now + 1) g, goE g⟩ := by
  have e : dueT (v.now + 1) (c.x 17) [g] = [g.tk] := by simp [dueT, isDue, h]
  unfold tickK
  rw [e]
  show tkStep _ _ _ = _
  simp [tkStep, findG]
theorem tick_ask {c : Cl} {g : Gt} {v : Rv} (h : v.now + 1 - g.since = c.x 17) (ha : g.asked ≠ g.ow.length) : tickK c [g] v = ⟨[askG (v.now + 1) g], v.d.tick.does 2 (lastA g), [getMg (askG (v.now + 1) g)], []⟩ := by
  rw [tick_due h]
  simp [goG, goM, goE, ha, askd]
theorem tick_end {c : Cl} {g : Gt} {v : Rv} (h : v.now + 1 - g.since = c.x 17) (ha : g.asked = g.ow.length) : tickK c [g] v = ⟨[], v.d.tick.does 2 (lastA g), [], [noOc g]⟩ := by
  rw [tick_due h]
  simp [goG, goM, goE, ha, gone]
theorem ping_kind {v : Rv} {wt : Int} {n : Nat} {x : Mg} (h : x ∈ pingL v wt n) : x.kind = 1 := by
  unfold pingL at h
  split at h
  · unfold pings at h
    obtain ⟨k, _, rfl⟩ := List.mem_map.1 h
    rfl
  · simp at h
theorem ping_len {v : Rv} {wt : Int} {n : Nat} : (pingL v wt n).length ≤ n := by
  unfold pingL
  split
  · unfold pings
    rw [List.length_map]
    exact Nat.le_trans (List.length_filter_le _ _) (by simp)
  · exact Nat.zero_le _
theorem last_mem {g : Gt} (h1 : 1 ≤ g.asked) (h2 : g.asked ≤ g.ow.length) : lastA g ∈ g.ow := by
  unfold lastA
  rw [atL_get (by omega)]
  exact List.getElem_mem _
theorem last_take {g : Gt} (h1 : 1 ≤ g.asked) (h2 : g.asked ≤ g.ow.length) : (g.ow.take g.asked).contains (lastA g) = true := by
  unfold lastA
  rw [atL_get (by omega), List.contains_iff_mem, List.mem_take_iff_getElem]
  exact ⟨g.asked - 1, by omega, rfl⟩
/-- the answer that comes is taken: the get has ended -/
theorem take_got {g : Gt} (h1 : 1 ≤ g.asked) (h2 : g.asked ≤ g.ow.length) (now : Int) : takeO [g] (gotM (getMg g)) = [⟨g.tk, g.key, 0, lastA g, 5, here⟩] ∧ takeG [g] now (gotM (getMg g)) = [] := by
  have e : ansG [g] (gotM (getMg g)) = some g := by
    have h3 := last_take h1 h2
    unfold ansG
    have f : findG [g] (gotM (getMg g)).id = some g := by simp [findG, gotM, getMg]
    rw [f]
    show (if okAns (gotM (getMg g)) g = true then some g else none) = some g
    rw [if_pos]
    show (decide ((12 : Int) = 12) && decide (g.key = g.key) && (g.ow.take g.asked).contains (lastA g)) = true
    rw [h3]
    simp
  constructor
  · unfold takeO
    rw [e]
    rfl
  · unfold takeG
    rw [e]
    show hearG [g] now g (gotM (getMg g)) = []
    unfold hearG
    rw [if_pos (Or.inl (show (gotM (getMg g)).code = 0 from rfl))]
    simp [gone]
theorem does_now (d : Dt) (k : Int) : (d.does 2 k).now = d.now := by
  unfold Dt.does
  rw [if_neg (by decide), if_pos rfl]
  split <;> rfl
/-- a get that is served, behind i ticks -/
structure Sg (od : List Int) (key : ByteArray) (t now0 W M D : Int) (i : Nat) (g : Gt) (v : Rv) (Y : List Lt) : Prop where
  tk : g.tk = t
  key : g.key = key
  ow : g.ow = od
  now : v.now = now0 + (i : Int)
  dn : v.d.now = v.now
  last : v.last = t
  sin : g.since = now0 + W * ((g.asked : Int) - 1)
  fr : v.now < g.since + W
  mu : ∀ q, q + 1 < g.asked → mtB M (atL od q) = true
  st : (Y = [] ∧ mtB M (lastA g) = true) ∨ (mtB M (lastA g) = false ∧ Y = [⟨gotM (getMg g), D - (v.now - g.since)⟩] ∧ v.now - g.since ≤ D)
/-- the loop ends ahead of its bound -/
theorem Sg.lt {od : List Int} {key : ByteArray} {t now0 M D : Int} {i : Nat} {g : Gt} {v : Rv} {Y : List Lt} {c : Cl} {m : Nat} (h : Sg od key t now0 (c.x 17) M D i g v Y) (ok : Ok c [g] v m) : (i : Int) < c.x 0 * c.x 17 := by
  have a := ok.ask g (by simp)
  have hf := h.fr
  have w := ok.wt.1
  rw [h.now, h.sin] at hf
  have e : c.x 17 * ((g.asked : Int) - 1) + c.x 17 = c.x 17 * (g.asked : Int) := by rw [Int.mul_sub, Int.mul_one]; omega
  have l : c.x 17 * (g.asked : Int) ≤ c.x 17 * c.x 0 := Int.mul_le_mul_of_nonneg_left (by omega) (by omega)
  rw [Int.mul_comm (c.x 0)]
  omega
/-- the get is asked first -/
theorem Sg.start {od : List Int} {key : ByteArray} {W M D : Int} {v : Rv} (hW : 1 ≤ W) (hD : 0 ≤ D) (hd : v.d.now = v.now) :
    Sg od key (v.last + 1) v.now W M D 0 ⟨v.last + 1, key, od, 1, v.now⟩ { v with last := v.last + 1 } ([] ++ latF M D (v.last + 1) [getMg ⟨v.last + 1, key, od, 1, v.now⟩]) := by
  refine ⟨rfl, rfl, rfl, by show v.now = v.now + ((0 : Nat) : Int); omega, hd, rfl, by show v.now = v.now + W * (((1 : Nat) : Int) - 1); simp, by show v.now < v.now + W; omega, fun q hq => by simp at hq, ?_⟩
  rw [List.nil_append]
  have e : latF M D (v.last + 1) [getMg ⟨v.last + 1, key, od, 1, v.now⟩] = if mtB M (lastA ⟨v.last + 1, key, od, 1, v.now⟩) then [] else [⟨gotM (getMg ⟨v.last + 1, key, od, 1, v.now⟩), D⟩] := latF_yes (L := [getMg ⟨v.last + 1, key, od, 1, v.now⟩]) (by simp) ⟨rfl, rfl⟩
  rw [e]
  cases hm : mtB M (lastA ⟨v.last + 1, key, od, 1, v.now⟩)
  · right
    refine ⟨rfl, ?_, by show v.now - v.now ≤ D; omega⟩
    show [_] = [_]
    rw [show D - (({ v with last := v.last + 1 } : Rv).now - (⟨v.last + 1, key, od, 1, v.now⟩ : Gt).since) = D by show D - (v.now - v.now) = D; omega]
  · left
    exact ⟨rfl, rfl⟩
section
variable {od : List Int} {key : ByteArray} {t now0 M D : Int} {i : Nat} {g : Gt} {v : Rv} {Y : List Lt} {c : Cl} {m : Nat}
/-- a tick in which nothing is due -/
theorem Sg.not (h : Sg od key t now0 (c.x 17) M D i g v Y) (hn : v.now + 1 - g.since ≠ c.x 17) (hY : Y = [] ∨ ∃ l, Y = [l] ∧ 0 < l.lf) : Sg od key t now0 (c.x 17) M D (i + 1) g ⟨v.d.tick, v.now + 1, v.last⟩ (Y.map fun l => ⟨l.m, l.lf - 1⟩) := by
  have hf := h.fr
  refine ⟨h.tk, h.key, h.ow, by show v.now + 1 = _; rw [h.now]; omega, by show v.d.now + 1 = v.now + 1; rw [h.dn], h.last, h.sin, by show v.now + 1 < _; omega, h.mu, ?_⟩
  rcases h.st with ⟨a, b⟩ | ⟨a, b, e⟩
  · left
    rw [a]
    exact ⟨rfl, b⟩
  · right
    refine ⟨a, ?_, ?_⟩
    · rw [b]
      show [_] = [_]
      rw [show D - (v.now + 1 - g.since) = D - (v.now - g.since) - 1 by omega]
    · rcases hY with q | ⟨l, q, hl⟩
      · rw [q] at b
        simp at b
      · rw [q] at b
        simp only [List.cons.injEq, and_true] at b
        rw [b] at hl
        show v.now + 1 - g.since ≤ D
        simp only at hl
        omega
/-- a tick in which the next owner is asked -/
theorem Sg.ask (h : Sg od key t now0 (c.x 17) M D i g v []) (hW : 1 ≤ c.x 17) (hD : 0 ≤ D) (ha : 1 ≤ g.asked) (hn : v.now + 1 - g.since = c.x 17) (L : List Mg) : Sg od key t now0 (c.x 17) M D (i + 1) (askG (v.now + 1) g) ⟨v.d.tick.does 2 (lastA g), v.now + 1, v.last⟩ ([] ++ latF M D t (getMg (askG (v.now + 1) g) :: L)) := by
  have hs := h.sin
  have hm0 : mtB M (lastA g) = true := by
    rcases h.st with ⟨_, b⟩ | ⟨_, b, _⟩
    · exact b
    · simp at b
  refine ⟨h.tk, h.key, h.ow, by show v.now + 1 = _; rw [h.now]; omega, by show (v.d.tick.does 2 (lastA g)).now = v.now + 1; rw [does_now]; show v.d.now + 1 = v.now + 1; rw [h.dn], h.last, ?_, by show v.now + 1 < v.now + 1 + c.x 17; omega, fun q hq => ?_, ?_⟩
  · show v.now + 1 = now0 + c.x 17 * (((g.asked + 1 : Nat) : Int) - 1)
    rw [show ((g.asked + 1 : Nat) : Int) - 1 = ((g.asked : Int) - 1) + 1 by omega, Int.mul_add, Int.mul_one]
    omega
  · have hq' : q + 1 < g.asked + 1 := hq
    by_cases e : q + 1 < g.asked
    · exact h.mu q e
    · have : q = g.asked - 1 := by omega
      rw [this, ← h.ow]
      exact hm0
  · rw [List.nil_append]
    have e : latF M D t (getMg (askG (v.now + 1) g) :: L) = if mtB M (lastA (askG (v.now + 1) g)) then [] else [⟨gotM (getMg (askG (v.now + 1) g)), D⟩] := latF_yes (L := getMg (askG (v.now + 1) g) :: L) (by simp) ⟨rfl, h.tk⟩
    rw [e]
    cases hm : mtB M (lastA (askG (v.now + 1) g))
    · right
      refine ⟨rfl, ?_, by show v.now + 1 - (v.now + 1) ≤ D; omega⟩
      show [_] = [_]
      rw [show D - (v.now + 1 - (askG (v.now + 1) g).since) = D by show D - (v.now + 1 - (v.now + 1)) = D; omega]
    · left
      exact ⟨rfl, rfl⟩
/-- in the end: all were mute, and the ticks are just so many -/
theorem Sg.ends (h : Sg od key t now0 (c.x 17) M D i g v []) (hn : v.now + 1 - g.since = c.x 17) (ha : g.asked = g.ow.length) (hl : (g.ow.length : Int) = c.x 0) : (i : Int) + 1 = c.x 0 * c.x 17 ∧ ∀ z ∈ od, mtB M z = true := by
  have hm0 : mtB M (lastA g) = true := by
    rcases h.st with ⟨_, b⟩ | ⟨_, b, _⟩
    · exact b
    · simp at b
  constructor
  · have hs := h.sin
    have e := h.now
    rw [show ((g.asked : Int) - 1) = c.x 0 - 1 by omega, Int.mul_sub, Int.mul_one] at hs
    rw [Int.mul_comm (c.x 0)]
    omega
  · intro z hz
    rw [← h.ow] at hz
    obtain ⟨q, hq, rfl⟩ := List.getElem_of_mem hz
    by_cases e : q + 1 < g.asked
    · have := h.mu q e
      rw [← h.ow, atL_get hq] at this
      exact this
    · have : q = g.asked - 1 := by omega
      subst this
      unfold lastA at hm0
      rw [atL_get hq] at hm0
      exact hm0
end
theorem od_mem {c : Cl} {v : Rv} {gs : List Gt} {m : Nat} (ok : Ok c gs v m) (key : ByteArray) (z : Int) : z ∈ ordL v.d (baseOf c key) ↔ z ∈ ownsOf c key :=
  (ord_perm ok.up.ft ok.enb (baseOf c key)).mem_iff.trans (rowOf_perm c (ownsOf c key)).mem_iff
theorem Kp.toBelow {w w' : World} {T : Nat → Prop} {base : Nat} (h : Kp w w' T) (hT : ∀ k, T k → base ≤ k) (hb : base ≤ w.heap.size) : Below base w w' :=
  ⟨h.os, h.tape, h.output, h.size, fun j hj => h.block j (Nat.lt_of_lt_of_le hj hb) (fun q => by have := hT j q; omega)⟩
end Go.Proofs.YtndfhpfhgdamgaaGreatDoor.Cn
namespace Go.Proofs.YtndfhpfhgdamgaaGreatDoor.Cn
open Go.RowKit
theorem lt_range {w : World} {base g cap n : Nat} {L : List Lt} (h : w.ownsRow base 136 12 (.slice (some ⟨g, 0, none⟩) n cap) n (lts L)) {i : Nat} (hi : i < L.length) (hn : n = L.length) : w.rangeAt g (i * 12) (ltV L[i]).toList := fun j u hj => by
  have hj' := (List.getElem?_eq_some_iff.1 hj).1
  have h11 : (ltV L[i]).toList.length = 12 := rfl
  rw [h11] at hj'
  rw [h.cellAt (i * 12 + j) (by omega), lts_at L i hi j hj']
  simpa using hj
theorem oc_range2 {w : World} {base g cap n : Nat} {L : List Oc} (h : w.ownsRow base 96 6 (.slice (some ⟨g, 0, none⟩) n cap) n (ocs L)) {i : Nat} (hi : i < L.length) (hn : n = L.length) : w.rangeAt g (i * 6) (ocV L[i]).toList := fun j u hj => by
  have hj' := (List.getElem?_eq_some_iff.1 hj).1
  have h11 : (ocV L[i]).toList.length = 6 := rfl
  rw [h11] at hj'
  rw [h.cellAt (i * 6 + j) (by omega), ocs_at L i hi j hj']
  simpa using hj
theorem StX.putn {w : World} {base B ob oc : Nat} {ow : List Int} {M D : Int} {wv : Value} {Y : List Lt} (h : StX w base B ob oc ow M D wv Y) : StX (w.setCell ⟨B, 3, none⟩ (.slice none 0 0)) base B ob oc ow M D (.slice none 0 0) [] ∧ Kp w (w.setCell ⟨B, 3, none⟩ (.slice none 0 0)) (fun j => j = B) := by
  obtain ⟨_, x, _⟩ := h.putw (Kp.refl w _) (u' := .slice none 0 0) (Y' := []) (World.ownsRow_nil _ _ _ _)
  exact ⟨x, (Kp.refl w (fun j => j = B)).set (Or.inl rfl) _ _⟩
set_option maxHeartbeats 16000000 in
set_option maxRecDepth 100000 in
set_option linter.unusedSimpArgs false in
set_option linter.unusedVariables false in
theorem arrive_none {w : World} {base B ob oc : Nat} {ow : List Int} {M D : Int} {wv : Value} (h : StX w base B ob oc ow M D wv []) (R : Nat) :
    Calls Tryz.prog 40 #[.pointer (some ⟨B, 0, none⟩), .pointer (some ⟨R, 0, none⟩)] w fun e w' => e = .returned (.slice none 0 0) ∧ StX w' base B ob oc ow M D (.slice none 0 0) [] ∧ Kp w w' (fun k => k = B) := by
  obtain ⟨a, cp, hwv⟩ := own_sl h.way
  replace hwv : wv = .slice a 0 cp := hwv
  subst hwv
  have c3 := h.cells.2.2.2
  have f3 := h.fz 3
  have PN := hide h.putn
  clear h
  go_enter Tryz.func40, Tryz.ntmps40
  go_wp2_with fail
  go_loopw [5, 6, 7] (fun v5 v6 vi wr => w = wr ∧ v5 = .slice none 0 0 ∧ v6 = .slice none 0 0 ∧ vi = .int .i64 0) (fun _ _ _ _ => 0)
  case atStart => exact ⟨rfl, rfl, rfl, rfl⟩
  case round =>
    obtain ⟨rfl, rfl, rfl, rfl⟩ := hrel
    go_wp2_with fail
    go_ret
    exact ⟨rfl, PN.out⟩
set_option maxHeartbeats 16000000 in
set_option maxRecDepth 100000 in
set_option linter.unusedSimpArgs false in
set_option linter.unusedVariables false in
theorem arrive_wait {w : World} {base B ob oc : Nat} {ow : List Int} {M D : Int} {wv : Value} {l : Lt} (h : StX w base B ob oc ow M D wv [l]) (hl : 0 < l.lf) (R : Nat) :
    Calls Tryz.prog 40 #[.pointer (some ⟨B, 0, none⟩), .pointer (some ⟨R, 0, none⟩)] w fun e w' => e = .returned (.slice none 0 0) ∧ (∃ wv', StX w' base B ob oc ow M D wv' [l]) ∧ Kp w w' (fun k => k = B) := by
  obtain ⟨g, gc, hwv⟩ := own_g h.way (by show 0 < 1; omega)
  replace hwv : wv = .slice (some ⟨g, 0, none⟩) 1 gc := hwv
  subst hwv
  have c3 := h.cells.2.2.2
  have hbs : base ≤ w.heap.size := by have := h.ge; have := blk_lt h.blk; omega
  have RG : Hid (w.rangeAt g (0 * 12) (ltV l).toList) := lt_range (L := [l]) (i := 0) h.way (by show 0 < 1; omega) rfl
  obtain ⟨W2, hW2⟩ : ∃ W2, W2 = w.alloc (.cells (ltV l) 136) := ⟨_, rfl⟩
  have k2 : Kp w W2 non := by rw [hW2]; exact (Kp.refl w non).alloc _
  have G2 : Hid (W2.heap[w.heap.size]? = some (.cells (ltV l) 136)) := by rw [hW2]; exact heap_last _ _
  have X2 := hide (h.kp k2 (fun _ f => f.elim) (fun f => f) (fun _ _ f => f))
  have hb2 : Hid (base ≤ W2.heap.size) := Nat.le_trans hbs k2.size
  have K2 := hide k2
  have HX := hide h
  have q1 : decide ((0 : Int) < l.lf) = true := decide_eq_true hl
  clear h k2 hl hbs
  go_enter Tryz.func40, Tryz.ntmps40
  go_wp2_with fail
  go_loopw [5, 6, 7] (fun v5 v6 vi wr => v6 = .slice none 0 0 ∧ ((w = wr ∧ v5 = .slice none 0 0 ∧ ∃ i : Nat, i = 0 ∧ vi = .int .i64 (i : Int)) ∨ (vi = .int .i64 1 ∧ ∃ a c, v5 = .slice a 1 c ∧ Hid (wr.ownsRow base 136 12 v5 1 (lts [l])) ∧ Hid (Kp w wr non)))) (fun _ _ vi _ => 1 - (intOf vi).toNat)
  case atStart => exact ⟨rfl, Or.inl ⟨rfl, rfl, 0, rfl, rfl⟩⟩
  case round =>
    obtain ⟨rfl, hst⟩ := hrel
    rcases hst with ⟨rfl, rfl, i, hi, rfl⟩ | ⟨rfl, a, c, rfl, HO, HK⟩
    · have RG1 : Hid (w.rangeAt g (i * 12) (ltV l).toList) := by rw [hi]; exact RG.out
      have e11 := RG1.out 11 _ rfl
      have hii : (i : Int) < 1 := by omega
      have q2 : decide ((i : Int) < 1) = true := decide_eq_true hii
      have HI := hide hi
      clear hi
      go_wp2_with (first | refine wpList_load_mid rfl 136 (.tmp 36) rfl g (i * 12) rfl (ltV l).toList _ RG1.out Tryz.underlying136 rfl lt_info ?_ | (refine wpList_bsLt rfl (.tmp 37) rfl l rfl ?_; rw [← hW2]; clear hW2; refine wpList_apLt rfl (.tmp 30) (.tmp 38) rfl base (.slice none 0 0) [] rfl (World.ownsRow_nil _ _ _ _) w.heap.size l rfl G2.out (by simp) hb2.out ?_; intro u' W3 ho hg; have HO : Hid (W3.ownsRow base 136 12 u' 1 (lts [l])) := ho; have HK : Hid (Kp w W3 non) := K2.out.trans (Kp.of_grown hg) (fun j e => absurd e (by simp [Value.ownBlock])); clear ho hg))
      go_roundw
      case rel =>
        obtain ⟨ua, uc, hu⟩ := own_sl HO.out
        exact ⟨rfl, Or.inr ⟨by rw [HI.out]; rfl, ua, uc, hu, HO.out, HK.out⟩⟩
      case measure => rw [HI.out]; simp [intOf]
    · have X3 := HX.out.kp HK.out (fun _ f => f.elim) (fun f => f) (fun _ _ f => f)
      have c3' := X3.cells.2.2.2
      have f3' := X3.fz 3
      have PW : Hid (StX (wr.setCell ⟨B, 3, none⟩ (.slice a 1 c)) base B ob oc ow M D (.slice a 1 c) [l] ∧ Kp w (wr.setCell ⟨B, 3, none⟩ (.slice a 1 c)) (fun k => k = B)) := by
        obtain ⟨_, x, _⟩ := X3.putw (Kp.refl wr _) (Y' := [l]) HO.out
        exact ⟨x, (HK.out.mono (fun _ f => f.elim)).trans ((Kp.refl wr (fun j => j = B)).set (Or.inl rfl) _ _) (fun j q => Or.inl q)⟩
      clear c3 X3
      go_wp2_with fail
      go_ret
      exact ⟨rfl, ⟨_, PW.out.1⟩, PW.out.2⟩
end Go.Proofs.YtndfhpfhgdamgaaGreatDoor.Cn
namespace Go.Proofs.YtndfhpfhgdamgaaGreatDoor.Cn
open Go.RowKit
set_option maxHeartbeats 16000000 in
set_option maxRecDepth 100000 in
set_option linter.unusedSimpArgs false in
set_option linter.unusedVariables false in
theorem arrive_take {w : World} {base B ob oc : Nat} {ow : List Int} {M D : Int} {wv : Value} {l : Lt} (h : StX w base B ob oc ow M D wv [l]) (hl : l.lf = 0) {S : Nat → Prop} {R : Nat} {c : Cl} {P : List Gp} {v : Rv} {mm : Nat} (hr : RtAt w S R c P v) (hSb : ∀ k, S k → base ≤ k) (hok : Ok c (P.map (·.g)) v mm) (hlast : v.last ≤ 1000000000000000) (hid : tkOk l.m.id) (hm : ¬ (l.m.td ≠ 65 ∨ (l.m.kind ≠ 12 ∧ l.m.kind ≠ 2))) (hn : 0 ≤ l.m.fr ∧ l.m.fr < (v.d.n : Int)) (o : Oc) (hO : takeO (P.map (·.g)) l.m = [o]) :
    Calls Tryz.prog 40 #[.pointer (some ⟨B, 0, none⟩), .pointer (some ⟨R, 0, none⟩)] w fun e w' => ∃ S' P' g gc, e = .returned (.slice (some ⟨g, 0, none⟩) 1 gc) ∧ w'.rangeAt g 0 (ocV o).toList ∧ RtAt w' S' R c P' { v with d := v.d.good l.m.fr } ∧ P'.map (·.g) = takeG (P.map (·.g)) v.now l.m ∧ StX w' base B ob oc ow M D (.slice none 0 0) [] ∧ Kp w w' (fun k => S k ∨ k = B) ∧ ∀ k, S' k → S k := by
  obtain ⟨g, gc, hwv⟩ := own_g h.way (by show 0 < 1; omega)
  replace hwv : wv = .slice (some ⟨g, 0, none⟩) 1 gc := hwv
  subst hwv
  have c3 := h.cells.2.2.2
  have hbs : base ≤ w.heap.size := by have := h.ge; have := blk_lt h.blk; omega
  have RG : w.rangeAt g (0 * 12) (ltV l).toList := lt_range (L := [l]) (i := 0) h.way (by show 0 < 1; omega) rfl
  have RGm : Hid (w.rangeAt g (0 * 12) (mgV l.m).toList) := fun j u hj => by
    refine RG j u ?_
    have hj' := (List.getElem?_eq_some_iff.1 hj).1
    replace hj' : j < 11 := hj'
    rw [← hj]
    rcases (show j = 0 ∨ j = 1 ∨ j = 2 ∨ j = 3 ∨ j = 4 ∨ j = 5 ∨ j = 6 ∨ j = 7 ∨ j = 8 ∨ j = 9 ∨ j = 10 by omega) with rfl | rfl | rfl | rfl | rfl | rfl | rfl | rfl | rfl | rfl | rfl <;> rfl
  have TA := hide (Take_any hr hok hlast l.m hid hm hn)
  rw [hO] at TA
  obtain ⟨nB, nW⟩ := h.not hr
  have HX := hide h
  have NB := hide (And.intro nB nW)
  have HSb := hide hSb
  have e11 := RG 11 _ rfl
  replace e11 : w.cell? ⟨g, 0 * 12 + 11, none⟩ = some (.int .i64 0) := by rw [← hl]; exact e11
  have HR0 := hide hr
  clear h hl hr hSb hok hid hm hn hO nB nW hbs RG
  go_enter Tryz.func40, Tryz.ntmps40
  go_wp2_with fail
  go_loopw [5, 6, 7] (fun v5 v6 vi wr => v5 = .slice none 0 0 ∧ ((w = wr ∧ v6 = .slice none 0 0 ∧ ∃ i : Nat, i = 0 ∧ vi = .int .i64 (i : Int)) ∨ (vi = .int .i64 1 ∧ ∃ a c6, v6 = .slice (some ⟨a, 0, none⟩) 1 c6 ∧ Hid (∃ S' P', wr.rangeAt a 0 (ocV o).toList ∧ a ≠ B ∧ RtAt wr S' R c P' { v with d := v.d.good l.m.fr } ∧ P'.map (·.g) = takeG (P.map (·.g)) v.now l.m ∧ (∀ k, S' k → S k)) ∧ Hid (StX wr base B ob oc ow M D (.slice (some ⟨g, 0, none⟩) 1 gc) [l] ∧ Kp w wr S)))) (fun _ _ vi _ => 1 - (intOf vi).toNat)
  case atStart => exact ⟨rfl, Or.inl ⟨rfl, rfl, 0, rfl, rfl⟩⟩
  case round =>
    obtain ⟨rfl, hst⟩ := hrel
    rcases hst with ⟨rfl, rfl, i, hi, rfl⟩ | ⟨rfl, a, c6, rfl, HQ, HK⟩
    · have RG1 : Hid (w.rangeAt g (i * 12) (mgV l.m).toList) := by rw [hi]; exact RGm.out
      have e11' : w.cell? ⟨g, i * 12 + 11, none⟩ = some (.int .i64 0) := by rw [hi]; exact e11
      have hii : (i : Int) < 1 := by omega
      have q2 : decide ((i : Int) < 1) = true := decide_eq_true hii
      have HI := hide hi
      clear hi e11
      go_wp2_with (refine wpList_load_mid rfl 58 (.tmp 48) rfl g (i * 12) rfl (mgV l.m).toList _ RG1.out Tryz.underlying58 rfl mg_info ?_)
      refine Calls.mono TA.out ?_
      rintro e W1 ⟨S', P', vo, ve, rfl, r1, g1, o1, n1, k1, s1⟩
      obtain ⟨eg, ec, hve⟩ := own_g n1 (by show 0 < 1; omega)
      replace hve : ve = .slice (some ⟨eg, 0, none⟩) 1 ec := hve
      subst hve
      have X1 := hide (HX.out.kp k1 HSb.out NB.out.1 NB.out.2)
      have RGo : Hid (W1.rangeAt eg (0 * 6) (ocV o).toList) := oc_range2 (L := [o]) (i := 0) n1 (by show 0 < 1; omega) rfl
      have Q1 : Hid (RtAt W1 S' R c P' { v with d := v.d.good l.m.fr } ∧ P'.map (·.g) = takeG (P.map (·.g)) v.now l.m ∧ (∀ k, S' k → S k)) := ⟨r1, g1, s1⟩
      have K1 := hide k1
      have HSZ : Hid (w.heap.size ≤ W1.heap.size) := k1.size
      obtain ⟨W2, hW2⟩ : ∃ W2, W2 = W1.alloc (.cells (ocV o) 96) := ⟨_, rfl⟩
      have k2 : Kp W1 W2 non := by rw [hW2]; exact (Kp.refl W1 non).alloc _
      have G2 : Hid (W2.heap[W1.heap.size]? = some (.cells (ocV o) 96)) := by rw [hW2]; exact heap_last _ _
      have K2 := hide k2
      have hb2 : Hid (W1.heap.size ≤ W2.heap.size) := k2.size
      clear r1 g1 o1 n1 k1 s1 k2 TA e11'
      go_wp2_with fail
      go_loopw [6, 11] (fun v6 vk wt => ((W1 = wt ∧ v6 = .slice none 0 0 ∧ ∃ k : Nat, k = 0 ∧ vk = .int .i64 (k : Int)) ∨ (vk = .int .i64 1 ∧ Hid (wt.ownsRow W1.heap.size 96 6 v6 1 (ocs [o])) ∧ Hid (Kp W1 wt non)))) (fun _ vk _ => 1 - (intOf vk).toNat)
      case atStart => exact Or.inl ⟨rfl, rfl, 0, rfl, rfl⟩
      case round =>
        rcases hrel with ⟨rfl, rfl, k, hk, rfl⟩ | ⟨rfl, HO, HK⟩
        · have RG2 : Hid (W1.rangeAt eg (k * 6) (ocV o).toList) := by rw [hk]; exact RGo.out
          have hkk : (k : Int) < 1 := by omega
          have q3 : decide ((k : Int) < 1) = true := decide_eq_true hkk
          have HKk := hide hk
          clear hk
          go_wp2_with (first | refine wpList_load_mid rfl 96 (.tmp 63) rfl eg (k * 6) rfl (ocV o).toList _ RG2.out Tryz.underlying96 rfl oc_info ?_ | (refine wpList_bsO rfl (.tmp 64) rfl o rfl ?_; rw [← hW2]; clear hW2; refine wpList_apO rfl (.tmp 60) (.tmp 65) rfl W1.heap.size (.slice none 0 0) [] rfl (World.ownsRow_nil _ _ _ _) W1.heap.size o rfl G2.out (by simp) hb2.out ?_; intro u' W3 ho hg; have HO : Hid (W3.ownsRow W1.heap.size 96 6 u' 1 (ocs [o])) := ho; have HK : Hid (Kp W1 W3 non) := K2.out.trans (Kp.of_grown hg) (fun j e => absurd e (by simp [Value.ownBlock])); clear ho hg))
          go_roundw
          case rel => exact Or.inr ⟨by rw [HKk.out]; rfl, HO.out, HK.out⟩
          case measure => rw [HKk.out]; simp [intOf]
        · obtain ⟨ag, ac, hag⟩ := own_g HO.out (by omega)
          subst hag
          have X3 := HX.out
          have QQ : Hid (∃ S' P', wr.rangeAt ag 0 (ocV o).toList ∧ ag ≠ B ∧ RtAt wr S' R c P' { v with d := v.d.good l.m.fr } ∧ P'.map (·.g) = takeG (P.map (·.g)) v.now l.m ∧ (∀ k, S' k → S k)) := by
            refine ⟨S', P', ?_, ?_, Q1.out.1.kp HK.out (fun _ _ f => f), Q1.out.2⟩
            · have := oc_range2 (L := [o]) (i := 0) HO.out (by show 0 < 1; omega) rfl
              rw [Nat.zero_mul] at this
              exact this
            · have z1 := own_ge HO.out (g := ag) rfl
              have z2 := blk_lt HX.out.blk
              have z3 := HSZ.out
              intro e
              omega
          have KX : Hid (StX wr base B ob oc ow M D (.slice (some ⟨g, 0, none⟩) 1 gc) [l] ∧ Kp w wr S) := ⟨X1.out.kp HK.out (fun _ f => f.elim) (fun f => f) (fun _ _ f => f), K1.out.trans HK.out (fun _ f => f.elim)⟩
          clear X3
          go_wp2_with fail
          go_roundw
          case rel => exact ⟨rfl, Or.inr ⟨by rw [HI.out]; rfl, ag, ac, rfl, QQ.out, KX.out⟩⟩
          case measure => rw [HI.out]; simp [intOf]
    · have X3 := HK.out.1
      have c3' := X3.cells.2.2.2
      have f3' := X3.fz 3
      have PN := hide X3.putn
      clear c3 e11 X3
      go_wp2_with fail
      go_ret
      obtain ⟨S', P', q1, qn, q2, q3, q4⟩ := HQ.out
      obtain ⟨nB', _⟩ := HK.out.1.not q2
      refine ⟨S', P', a, ⟨c6, rfl⟩, fun j u hj => ?_, q2.kp PN.out.2 (fun k q e => nB' (e ▸ q)), q3, PN.out.1, (HK.out.2.mono (fun _ q => Or.inl q)).trans PN.out.2 (fun j q => Or.inl (Or.inr q)), q4⟩
      have z := q1 j u hj
      exact (PN.out.2.cell (World.block_lt_of_cell? wr _ z) qn).trans z
end Go.Proofs.YtndfhpfhgdamgaaGreatDoor.Cn
namespace Go.Proofs.YtndfhpfhgdamgaaGreatDoor.Cn
open Go.RowKit
def ltD (l : Lt) : Lt := ⟨l.m, l.lf - 1⟩
set_option maxHeartbeats 16000000 in
set_option maxRecDepth 100000 in
set_option linter.unusedSimpArgs false in
set_option linter.unusedVariables false in
theorem later_none {w : World} {base B ob oc : Nat} {ow : List Int} {M D : Int} {wv : Value} (h : StX w base B ob oc ow M D wv []) :
    Calls Tryz.prog 41 #[.pointer (some ⟨B, 0, none⟩)] w fun e w' => e = .returned (.tuple #[]) ∧ w = w' := by
  obtain ⟨a, cp, hwv⟩ := own_sl h.way
  replace hwv : wv = .slice a 0 cp := hwv
  subst hwv
  have c3 := h.cells.2.2.2
  clear h
  go_enter Tryz.func41, Tryz.ntmps41
  go_wp2_with fail
  go_loopw [2] (fun vi wr => w = wr ∧ vi = .int .i64 0) (fun _ _ => 0)
  case atStart => exact ⟨rfl, rfl⟩
  case round =>
    obtain ⟨rfl, rfl⟩ := hrel
    go_wp2_with fail
    go_end0
    exact ⟨rfl, rfl⟩
theorem lts_set (l : Lt) : (lts [l]).set 11 (.int .i64 (l.lf - 1)) = lts [ltD l] := rfl
set_option maxHeartbeats 16000000 in
set_option maxRecDepth 100000 in
set_option linter.unusedSimpArgs false in
set_option linter.unusedVariables false in
theorem later_one {w : World} {base B ob oc : Nat} {ow : List Int} {M D : Int} {wv : Value} {l : Lt} (h : StX w base B ob oc ow M D wv [l]) (hl : 0 < l.lf) (hl2 : l.lf ≤ 1000000) :
    Calls Tryz.prog 41 #[.pointer (some ⟨B, 0, none⟩)] w fun e w' => e = .returned (.tuple #[]) ∧ StX w' base B ob oc ow M D wv [ltD l] ∧ Kp w w' (fun k => wv.ownBlock = some k) := by
  obtain ⟨g, gc, hwv⟩ := own_g h.way (by show 0 < 1; omega)
  replace hwv : wv = .slice (some ⟨g, 0, none⟩) 1 gc := hwv
  subst hwv
  have c3 := h.cells.2.2.2
  have RG : w.rangeAt g (0 * 12) (ltV l).toList := lt_range (L := [l]) (i := 0) h.way (by show 0 < 1; omega) rfl
  have e11 := RG 11 _ rfl
  replace e11 : w.cell? ⟨g, 0 * 12 + 11, none⟩ = some (.int .i64 l.lf) := e11
  obtain ⟨cur, hcur⟩ := own_typ h.way (g := g) rfl
  have ngB : g ≠ B := fun e => own_not h.way h.blk (by decide) (by show some g = some B; rw [e])
  have PS : Hid (StX (w.setCell ⟨g, 11, none⟩ (.int .i64 (l.lf - 1))) base B ob oc ow M D (.slice (some ⟨g, 0, none⟩) 1 gc) [ltD l] ∧ Kp w (w.setCell ⟨g, 11, none⟩ (.int .i64 (l.lf - 1))) (fun k => some g = some k)) := by
    have ks : Kp w (w.setCell ⟨g, 11, none⟩ (.int .i64 (l.lf - 1))) (fun k => some g = some k) := (Kp.refl w (fun k => some g = some k)).set (Or.inl rfl) _ _
    have zg := own_ge h.way (g := g) rfl
    refine ⟨⟨(ks.block _ (blk_lt h.blk) (fun e => ngB (Option.some.inj e))).trans h.blk, h.ge, fun i hi => (ks.cell (World.block_lt_of_cell? w _ (h.own i hi)) (fun e => ?_)).trans (h.own i hi), h.lt, ?_⟩, ks⟩
    · have z := Option.some.inj e
      replace z : g = ob := z
      have := h.lt
      omega
    · have hw0 : w.ownsRow base 136 12 (.slice (some ⟨g, 0, none⟩) 1 gc) 1 (lts [l]) := h.way
      exact (hw0.stored 11 (.int .i64 (l.lf - 1))).1
  have f11 : w.frozen? ⟨g, 11, none⟩ = false := fz_row hcur 11
  have hw := wrap_in (x := l.lf - 1) (by omega) (by omega)
  generalize l.lf = lf at *
  have B3 : Hid (∀ W, StX W base B ob oc ow M D (.slice (some ⟨g, 0, none⟩) 1 gc) [ltD l] → W.cell? ⟨B, 3, none⟩ = some (.slice (some ⟨g, 0, none⟩) 1 gc)) := fun W x => x.cells.2.2.2
  clear h RG hcur ngB
  go_enter Tryz.func41, Tryz.ntmps41
  go_wp2_with fail
  go_loopw [2] (fun vi wr => (w = wr ∧ ∃ i : Nat, i = 0 ∧ vi = .int .i64 (i : Int)) ∨ (vi = .int .i64 1 ∧ wr = w.setCell ⟨g, 11, none⟩ (.int .i64 (lf - 1)))) (fun vi _ => 1 - (intOf vi).toNat)
  case atStart => exact Or.inl ⟨rfl, 0, rfl, rfl⟩
  case round =>
    rcases hrel with ⟨rfl, i, hi, rfl⟩ | ⟨rfl, hwr⟩
    · have e11' : w.cell? ⟨g, i * 12 + 11, none⟩ = some (.int .i64 lf) := by rw [hi]; exact e11
      have f11' : w.frozen? ⟨g, i * 12 + 11, none⟩ = false := by rw [hi]; exact f11
      have hii : (i : Int) < 1 := by omega
      have q2 : decide ((i : Int) < 1) = true := decide_eq_true hii
      have HI := hide hi
      clear hi e11 f11
      go_wp2_with fail
      go_roundw
      case rel => exact Or.inr ⟨by rw [HI.out]; rfl, by rw [HI.out]⟩
      case measure => rw [HI.out]; simp [intOf]
    · have PS1 : Hid (StX wr base B ob oc ow M D (.slice (some ⟨g, 0, none⟩) 1 gc) [ltD l] ∧ Kp w wr (fun k => some g = some k)) := by rw [hwr]; exact PS.out
      have c3' := B3.out wr PS1.out.1
      clear c3 e11 f11 hwr PS
      go_wp2_with fail
      go_end0
      exact ⟨rfl, PS1.out⟩
end Go.Proofs.YtndfhpfhgdamgaaGreatDoor.Cn
namespace Go.Proofs.YtndfhpfhgdamgaaGreatDoor.Cn
open Go.RowKit
section
variable (w : World) (base B ob oc : Nat) (ow : List Int) (M D : Int) (R : Nat) (c : Cl) (od : List Int) (key : ByteArray) (t now0 : Int) (m0 : Nat)
/-- router and get -/
structure Rs (i : Nat) (wr : World) (S : Nat → Prop) (P : List Gp) (v : Rv) (g : Gt) : Prop where
  rt : RtAt wr S R c P v
  ge : ∀ k, S k → base ≤ k
  gs : P.map (·.g) = [g]
  ok : Ok c [g] v (m0 + 2 * i)
  be : Below base w wr
/-- while a get is served -/
def Sv (i : Nat) (wr : World) : Prop := ∃ S P v wv Y g, StX wr base B ob oc ow M D wv Y ∧ Rs w base R c m0 i wr S P v g ∧ Sg od key t now0 (c.x 17) M D i g v Y
/-- nothing has come -/
def Sw (i : Nat) (wr : World) : Prop := ∃ S P v wv Y g, StX wr base B ob oc ow M D wv Y ∧ Rs w base R c m0 i wr S P v g ∧ Sg od key t now0 (c.x 17) M D i g v Y ∧ (Y = [] ∨ ∃ l, Y = [l] ∧ 0 < l.lf)
/-- the answer under way is one tick nearer -/
def Sy (i : Nat) (wr : World) : Prop := ∃ S P v wv Y g, StX wr base B ob oc ow M D wv (Y.map fun l => ⟨l.m, l.lf - 1⟩) ∧ Rs w base R c m0 i wr S P v g ∧ Sg od key t now0 (c.x 17) M D i g v Y ∧ (Y = [] ∨ ∃ l, Y = [l] ∧ 0 < l.lf)
/-- the get has ended -/
def Fv (tk : Int) (wr : World) : Prop := ∃ S v wv Y m, StX wr base B ob oc ow M D wv Y ∧ RtAt wr S R c [] v ∧ (∀ k, S k → base ≤ k) ∧ Ok c [] v m ∧ (m : Int) ≤ (m0 : Int) + 2 * tk ∧ v.last = t ∧ v.now ≤ now0 + tk ∧ v.d.now = v.now ∧ Below base w wr
/-- messages that go out -/
structure Ot (L : List Mg) (Y : List Lt) : Prop where
  len : L.length ≤ 1000
  no : ∀ i (hi : i < L.length), 1 ≤ i → ¬ (L[i].kind = 11 ∧ L[i].id = t)
  yes : ∀ h0 : 0 < L.length, L[0].kind = 11 ∧ L[0].id = t → Y = [] ∧ L[0].td ∈ ow ∧ 0 ≤ L[0].td ∧ L[0].td < 16
end
section
variable {w : World} {base B ob oc : Nat} {ow : List Int} {M D : Int} {R : Nat} {c : Cl} {od : List Int} {key : ByteArray} {t now0 : Int} {m0 : Nat} {i : Nat} {wr : World}
theorem hbase {wv : Value} {Y : List Lt} (h : StX wr base B ob oc ow M D wv Y) : base ≤ wr.heap.size := by
  have := h.ge
  have := blk_lt h.blk
  omega
/-- the order's owners are the owners -/
structure Od (c : Cl) (od ow : List Int) : Prop where
  mem : ∀ z, z ∈ od ↔ z ∈ ow
  rng : ∀ z ∈ od, 0 ≤ z ∧ z < 16
theorem Sv.arrive (h : Sv w base B ob oc ow M D R c od key t now0 m0 i wr) (hlast : 0 ≤ t ∧ t ≤ 1000000000000000) (hod : Od c od ow) :
    (Calls Tryz.prog 40 #[.pointer (some ⟨B, 0, none⟩), .pointer (some ⟨R, 0, none⟩)] wr fun e w' => e = .returned (.slice none 0 0) ∧ Sw w base B ob oc ow M D R c od key t now0 m0 i w')
    ∨ (Calls Tryz.prog 40 #[.pointer (some ⟨B, 0, none⟩), .pointer (some ⟨R, 0, none⟩)] wr fun e w' => ∃ g gc nd, e = .returned (.slice (some ⟨g, 0, none⟩) 1 gc) ∧ w'.rangeAt g 0 (ocV ⟨t, key, 0, nd, 5, here⟩).toList ∧ nd ∈ ow ∧ 0 ≤ nd ∧ nd < 16 ∧ mtB M nd = false ∧ Fv w base B ob oc ow M D R c t now0 m0 (i : Int) w') := by
  obtain ⟨S, P, v, wv, Y, g, hx, hs, hg⟩ := h
  obtain ⟨nB, nW⟩ := hx.not hs.rt
  have hb := hbase hx
  have ha := hs.ok.ask g (by simp)
  rcases hg.st with ⟨rfl, hmu⟩ | ⟨hmu, rfl, hle⟩
  · left
    refine Calls.mono (arrive_none hx R) ?_
    rintro e w' ⟨rfl, x', k'⟩
    refine ⟨rfl, S, P, v, _, [], g, x', ⟨hs.rt.kp k' (fun k q e => nB (e ▸ q)), hs.ge, hs.gs, hs.ok, hs.be.trans (k'.toBelow (fun k e => by rw [e]; exact hx.ge) hb)⟩, hg, Or.inl rfl⟩
  · by_cases hz : D - (v.now - g.since) = 0
    · right
      have hmem := last_mem ha.1 ha.2.1
      rw [hg.ow] at hmem
      have hr := hod.rng _ hmem
      have hown := (hs.ok.own g (by simp)).1 (lastA g) (last_mem ha.1 ha.2.1)
      have tg := take_got ha.1 ha.2.1 v.now
      have htk := hs.ok.tks g (by simp)
      have hl := hg.last
      refine Calls.mono (arrive_take (l := ⟨gotM (getMg g), D - (v.now - g.since)⟩) hx hz hs.rt hs.ge (mm := m0 + 2 * i) (by rw [hs.gs]; exact hs.ok) (by rw [hl]; exact hlast.2) ⟨by show _ ≤ g.tk; omega, by show g.tk < _; omega⟩ (by show ¬ ((65 : Int) ≠ 65 ∨ ((12 : Int) ≠ 12 ∧ (12 : Int) ≠ 2)); simp) (by rw [hs.ok.dn]; exact hown) ⟨g.tk, g.key, 0, lastA g, 5, here⟩ (by rw [hs.gs]; exact tg.1)) ?_
      rintro e w' ⟨S', P', eg, gc, rfl, rg, r', g', x', k', s'⟩
      have hP : P' = [] := by
        have e : P'.map (·.g) = [] := by rw [g', hs.gs]; exact tg.2
        simpa using e
      subst hP
      have okt := hs.ok.take (gotM (getMg g))
      have okt2 : Ok c [] { v with d := v.d.good (gotM (getMg g)).fr } (m0 + 2 * i) := by
        rw [tg.2] at okt
        exact okt
      rw [hg.tk, hg.key] at rg
      refine ⟨eg, gc, lastA g, rfl, rg, (hod.mem _).1 hmem, hr.1, hr.2, hmu, S', _, _, _, _, x', r', fun k q => hs.ge k (s' k q), okt2, by omega, hl, by show v.now ≤ _; rw [hg.now]; omega, hg.dn, ?_⟩
      exact hs.be.trans (k'.toBelow (fun k q => q.elim (fun q => hs.ge k q) (fun e => by rw [e]; exact hx.ge)) hb)
    · left
      refine Calls.mono (arrive_wait hx (by show 0 < D - (v.now - g.since); omega) R) ?_
      rintro e w' ⟨rfl, ⟨wv', x'⟩, k'⟩
      refine ⟨rfl, S, P, v, _, _, g, x', ⟨hs.rt.kp k' (fun k q e => nB (e ▸ q)), hs.ge, hs.gs, hs.ok, hs.be.trans (k'.toBelow (fun k e => by rw [e]; exact hx.ge) hb)⟩, hg, Or.inr ⟨_, rfl, by show 0 < D - (v.now - g.since); omega⟩⟩
theorem Sw.later (h : Sw w base B ob oc ow M D R c od key t now0 m0 i wr) (hD : D < c.x 17) :
    Calls Tryz.prog 41 #[.pointer (some ⟨B, 0, none⟩)] wr fun e w' => e = .returned (.tuple #[]) ∧ Sy w base B ob oc ow M D R c od key t now0 m0 i w' := by
  obtain ⟨S, P, v, wv, Y, g, hx, hs, hg, hY⟩ := h
  obtain ⟨nB, nW⟩ := hx.not hs.rt
  have hb := hbase hx
  rcases hY with rfl | ⟨l, rfl, hl⟩
  · refine Calls.mono (later_none hx) ?_
    rintro e w' ⟨rfl, rfl⟩
    exact ⟨rfl, S, P, v, wv, [], g, hx, hs, hg, Or.inl rfl⟩
  · have hl2 : l.lf ≤ 1000000 := by
      have hw := hs.ok.wt.2
      have hsn := hs.ok.sin g (by simp)
      rcases hg.st with ⟨a, _⟩ | ⟨_, b, _⟩
      · simp at a
      · simp only [List.cons.injEq, and_true] at b
        rw [b]
        show D - (v.now - g.since) ≤ _
        omega
    refine Calls.mono (later_one hx hl hl2) ?_
    rintro e w' ⟨rfl, x', k'⟩
    refine ⟨rfl, S, P, v, wv, [l], g, x', ⟨hs.rt.kp k' (fun k q e => nW k e q), hs.ge, hs.gs, hs.ok, hs.be.trans (k'.toBelow (fun k e => own_ge hx.way e) hb)⟩, hg, Or.inr ⟨l, rfl, hl⟩⟩
end
end Go.Proofs.YtndfhpfhgdamgaaGreatDoor.Cn
namespace Go.Proofs.YtndfhpfhgdamgaaGreatDoor.Cn
open Go.RowKit
section
variable {w : World} {base B ob oc : Nat} {ow : List Int} {M D : Int} {R : Nat} {c : Cl} {od : List Int} {key : ByteArray} {t now0 : Int} {m0 : Nat} {i : Nat} {wr : World}
theorem ot_pings {v : Rv} {wt : Int} {n : Nat} {Y : List Lt} (hn : n ≤ 16) : Ot ow t ([] ++ pingL v wt n) Y := by
  have key : ∀ k (hk : k < ([] ++ pingL v wt n).length), ¬ (([] ++ pingL v wt n)[k].kind = 11 ∧ ([] ++ pingL v wt n)[k].id = t) := fun k hk q => by
    have := ping_kind (x := ([] ++ pingL v wt n)[k]) (v := v) (wt := wt) (n := n) (List.getElem_mem (l := pingL v wt n) hk)
    omega
  refine ⟨?_, fun k hk _ => key k hk, fun h0 q => absurd q (key 0 h0)⟩
  have := ping_len (v := v) (wt := wt) (n := n)
  show (pingL v wt n).length ≤ _
  omega
theorem lat_pings {v : Rv} {wt : Int} {n : Nat} : latF M D t ([] ++ pingL v wt n) = [] := latF_no fun h0 q => by
  have := ping_kind (x := ([] ++ pingL v wt n)[0]) (v := v) (wt := wt) (n := n) (List.getElem_mem (l := pingL v wt n) h0)
  omega
theorem Sy.tick (h : Sy w base B ob oc ow M D R c od key t now0 m0 i wr) (hD0 : 0 ≤ D) (hD : D < c.x 17) (hm : m0 + 2 * i ≤ 90000000000000) (hlast : t ≤ 1000000000000000) (hnow : now0 + (i : Int) ≤ 900000000000000) (hod : Od c od ow) :
    Calls Tryz.prog 27 #[.pointer (some ⟨R, 0, none⟩)] wr fun e w' => ∃ vo ve L Yd wv b0, e = .returned (.tuple #[vo, ve, .int .i64 0]) ∧ w'.ownsRow b0 58 11 vo L.length (mgs L) ∧ Ot ow t L Yd ∧ StX w' base B ob oc ow M D wv Yd ∧
      (((∃ a cp, ve = .slice a 0 cp) ∧ ∀ w2 wv2, StX w2 base B ob oc ow M D wv2 (Yd ++ latF M D t L) → Kp w' w2 (fun k => k = B ∨ wv.ownBlock = some k) → Sv w base B ob oc ow M D R c od key t now0 m0 (i + 1) w2)
      ∨ ((∃ eg ec, ve = .slice (some ⟨eg, 0, none⟩) 1 ec ∧ ∀ w2, Kp w' w2 (fun k => k = B ∨ wv.ownBlock = some k) → w2.rangeAt eg 0 (ocV ⟨t, key, 171, -1, 0, ⟨#[]⟩⟩).toList) ∧ (i : Int) + 1 = c.x 0 * c.x 17 ∧ (∀ z ∈ od, mtB M z = true) ∧ ∀ w2 wv2, StX w2 base B ob oc ow M D wv2 (Yd ++ latF M D t L) → Kp w' w2 (fun k => k = B ∨ wv.ownBlock = some k) → Fv w base B ob oc ow M D R c t now0 m0 ((i : Int) + 1) w2)) := by
  obtain ⟨S, P, v, wv, Y, g, hx, hs, hg, hY⟩ := h
  obtain ⟨nB, nW⟩ := hx.not hs.rt
  have hb := hbase hx
  have ha := hs.ok.ask g (by simp)
  have n16 : c.ns.length ≤ 16 := by rw [← hs.ok.dn]; exact hs.ok.up.ft.n16
  have hwt := hs.ok.wt
  have TR := Tick_r hs.rt (m := m0 + 2 * i) (by rw [hs.gs]; exact hs.ok) (by omega) (by rw [hg.last]; exact hlast) (by rw [hg.now]; omega) (by rw [hg.dn, hg.now]; omega)
  have okt := hs.ok.tick
  rw [hs.gs] at TR
  refine Calls.mono TR ?_
  rintro e w' ⟨S', P', vo, ve, rfl, r', g', o', n', k', s'⟩
  have x' := hx.kp k' hs.ge nB nW
  have be' : Below base w w' := hs.be.trans (k'.toBelow hs.ge hb)
  have hb' := hbase x'
  have ge' : ∀ k, S' k → base ≤ k := fun k q => hs.ge k (s' k q)
  have keep : ∀ w2, Kp w' w2 (fun k => k = B ∨ wv.ownBlock = some k) → ∀ {P2 : List Gp} {v2 : Rv}, RtAt w' S' R c P2 v2 → RtAt w2 S' R c P2 v2 ∧ Below base w w2 := fun w2 k2 P2 v2 r2 => by
    obtain ⟨n1, n2⟩ := x'.not r2
    exact ⟨r2.kp k2 (fun k q e => e.elim (fun e => n1 (e ▸ q)) (fun e => n2 k e q)), be'.trans (k2.toBelow (fun k e => e.elim (fun e => by rw [e]; exact hx.ge) (fun e => own_ge x'.way e)) hb')⟩
  by_cases hdue : v.now + 1 - g.since = c.x 17
  · have hY0 : Y = [] := by
      rcases hY with q | ⟨l, q, hl⟩
      · exact q
      · exfalso
        rcases hg.st with ⟨a, _⟩ | ⟨_, b, _⟩
        · rw [a] at q
          simp at q
        · rw [q] at b
          simp only [List.cons.injEq, and_true] at b
          rw [b] at hl
          simp only at hl
          omega
    subst hY0
    by_cases hfin : g.asked = g.ow.length
    · rw [tick_end hdue hfin] at r' g' o' n' okt
      obtain ⟨f1, f2⟩ := hg.ends hdue hfin ha.2.2
      have hP : P' = [] := by simpa using g'
      subst hP
      obtain ⟨eg, ec, hve⟩ := own_g n' (by show 0 < 1; omega)
      replace hve : ve = .slice (some ⟨eg, 0, none⟩) 1 ec := hve
      subst hve
      refine ⟨vo, _, _, [], wv, _, rfl, o', ot_pings n16, x', Or.inr ⟨⟨eg, ec, rfl, fun w2 k2 => ?_⟩, f1, f2, fun w2 wv2 x2 k2 => ?_⟩⟩
      · have n2 := own_kp n' k2 (fun k e q => ?_)
        · have rg := oc_range2 (L := [noOc g]) (i := 0) n2 (by show 0 < 1; omega) rfl
          rw [Nat.zero_mul] at rg
          have e0 : noOc g = ⟨t, key, 171, -1, 0, ⟨#[]⟩⟩ := by rw [← hg.tk, ← hg.key]; rfl
          rw [← e0]
          exact rg
        · rcases q with q | q
          · exact own_not n' x'.blk (by decide) (q ▸ e)
          · exact own_ne2 n' x'.way (by decide) e q
      · obtain ⟨r2, b2⟩ := keep w2 k2 r'
        refine ⟨S', _, wv2, _, _, x2, r2, ge', okt, ?_, hg.last, ?_, ?_, b2⟩
        · show ((m0 + 2 * i + 1 + 1 : Nat) : Int) ≤ _
          omega
        · show v.now + 1 ≤ _
          rw [hg.now]
          omega
        · show (v.d.tick.does 2 (lastA g)).now = v.now + 1
          rw [does_now]
          show v.d.now + 1 = v.now + 1
          rw [hg.dn]
    · rw [tick_ask hdue hfin] at r' g' o' n' okt
      have okt2 : Ok c [askG (v.now + 1) g] ⟨v.d.tick.does 2 (lastA g), v.now + 1, v.last⟩ (m0 + 2 * (i + 1)) := okt
      obtain ⟨ea, ec, hve⟩ := own_sl n'
      have hmem : lastA (askG (v.now + 1) g) ∈ od := by
        have a2 := okt2.ask _ (List.mem_singleton.2 rfl)
        have := last_mem a2.1 a2.2.1
        rw [← hg.ow]
        exact this
      have hr := hod.rng _ hmem
      refine ⟨vo, ve, getMg (askG (v.now + 1) g) :: pingL ⟨v.d.tick.does 2 (lastA g), v.now + 1, v.last⟩ (c.x 17) c.ns.length, [], wv, _, rfl, o', ⟨?_, fun k hk h1 q => ?_, fun h0 q => ⟨rfl, (hod.mem _).1 hmem, hr⟩⟩, x', Or.inl ⟨⟨ea, ec, hve⟩, fun w2 wv2 x2 k2 => ?_⟩⟩
      · have := ping_len (v := ⟨v.d.tick.does 2 (lastA g), v.now + 1, v.last⟩) (wt := c.x 17) (n := c.ns.length)
        rw [List.length_cons]
        omega
      · obtain ⟨k', rfl⟩ : ∃ k', k = k' + 1 := ⟨k - 1, by omega⟩
        have hk2 : k' < (pingL ⟨v.d.tick.does 2 (lastA g), v.now + 1, v.last⟩ (c.x 17) c.ns.length).length := by
          rw [List.length_cons] at hk
          omega
        have := ping_kind (List.getElem_mem hk2)
        have q1 : (pingL ⟨v.d.tick.does 2 (lastA g), v.now + 1, v.last⟩ (c.x 17) c.ns.length)[k'].kind = 11 := q.1
        omega
      · obtain ⟨r2, b2⟩ := keep w2 k2 r'
        exact ⟨S', P', _, wv2, _, _, x2, ⟨r2, ge', g', okt2, b2⟩, hg.ask hwt.1 hD0 ha.1 hdue _⟩
  · rw [tick_not hdue] at r' g' o' n' okt
    have okt2 : Ok c [g] ⟨v.d.tick, v.now + 1, v.last⟩ (m0 + 2 * (i + 1)) := okt
    obtain ⟨ea, ec, hve⟩ := own_sl n'
    refine ⟨vo, ve, _, _, wv, _, rfl, o', ot_pings n16, x', Or.inl ⟨⟨ea, ec, hve⟩, fun w2 wv2 x2 k2 => ?_⟩⟩
    obtain ⟨r2, b2⟩ := keep w2 k2 r'
    rw [lat_pings, List.append_nil] at x2
    exact ⟨S', P', _, wv2, _, g, x2, ⟨r2, ge', g', okt2, b2⟩, hg.not hdue hY⟩
end
end Go.Proofs.YtndfhpfhgdamgaaGreatDoor.Cn
