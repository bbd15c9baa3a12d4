import Derived.Test.YthihmgdefbahpaaPart11
import Derived.Test.YthihmgdefbahpaaPart10
namespace Go.Proofs.Ythihmgdefbahpaa
open Go.RowKit
theorem dc_zero {m : Int} {x d : ByteArray} (h : dcE m x d = 0) : riE m x = 0 ∧ ∃ l, dcOk m x d = some l ∧ dcG m x d = l := by
  by_cases hr : riE m x = 0
  · refine ⟨hr, ?_⟩
    cases ho : dcOk m x d with
    | none => rw [(dc_no hr ho).1] at h; cases h
    | some l => exact ⟨l, rfl, (dc_yes hr ho).2⟩
  · rw [(dc_index hr).1] at h; exact absurd h hr
theorem dc_none {m : Int} {x d : ByteArray} (h : dcE m x d ≠ 0) : dcG m x d = [] := by
  by_cases hr : riE m x = 0
  · cases ho : dcOk m x d with
    | none => exact (dc_no hr ho).2
    | some l => exact absurd (dc_yes hr ho).1 h
  · exact (dc_index hr).2
theorem ok_inv {m : Int} {x d : ByteArray} {l : List GR} (h : dcOk m x d = some l) : decAt m.toNat x d (x.size / (m.toNat + 4)) = some (l, d.size) ∧ d.size ≤ 65536 := by
  have hb : d.size ≤ 65536 := by
    rcases Nat.lt_or_ge 65536 d.size with hc | hc
    · rw [ok_big hc] at h; cases h
    · exact hc
  refine ⟨?_, hb⟩
  cases hd : decAt m.toNat x d (x.size / (m.toNat + 4)) with
  | none => rw [ok_none hd] at h; cases h
  | some r =>
    obtain ⟨l2, q⟩ := r
    by_cases hq : q = d.size
    · subst hq
      rw [ok_yes hd hb] at h
      injection h with h
      rw [h]
    · rw [ok_end hd hq] at h; cases h
/-- what Decode takes is what Encode makes of what it found -/
theorem dec_enc {kn : Nat} {x d : ByteArray} (h : dcE (kn : Int) x d = 0) : egE (kn : Int) (dcG (kn : Int) x d) = 0 ∧ egI (kn : Int) (dcG (kn : Int) x d) = x ∧ egD (kn : Int) (dcG (kn : Int) x d) = d := by
  obtain ⟨hr, l, ho, hg⟩ := dc_zero h
  rw [hg]
  obtain ⟨hk, hx, hup, _⟩ := ri_inv hr
  obtain ⟨hdec, hb⟩ := ok_inv ho
  rw [Int.toNat_natCast] at hx hup hdec
  have hch := dec_ch _ _ hdec
  obtain ⟨_, hl, hD, hin⟩ := ch_facts _ _ _ (Nat.le_refl _) hch
  have hxs : x.size / (kn + 4) * (kn + 4) = x.size := Nat.div_mul_cancel (Nat.dvd_of_mod_eq_zero hx)
  have hN := (ch_dec hb _ _ _ (Nat.le_refl _) hch).2.2 hdec
  rw [hxs, List.take_of_length_le (by rw [size_data]; exact Nat.le_refl _)] at hN
  rw [List.take_of_length_le (by rw [size_data]; exact Nat.le_refl _)] at hD
  have hDl : (encD l).length = d.size := by rw [hD, size_data]
  have hE : egE (kn : Int) l = 0 := by
    refine (eg_ok hk (fun j hj => ?_) (by omega)).1
    have hsz : l[j].1.size = kn := by rw [(hin j hj).1]; exact rdeH_size (by omega)
    rw [gBad_rec hj (by omega)]
    · exact (hin j hj).2
    · intro ⟨h0, h1⟩
      rw [gr_at (by omega : j - 1 < l.length), (hin j hj).1, (hin (j - 1) (by omega)).1] at h1
      have ha := allUp_at hup (i := j - 1) (by omega)
      rw [show j - 1 + 1 = j by omega] at ha
      simp only [Bool.or_eq_false_iff] at ha
      rcases h1 with h1 | h1
      · rw [h1] at ha; simp at ha
      · have h2 : Op.bytesLess (rdeH kn x j).toList (rdeH kn x (j - 1)).toList = true := h1
        rw [h2] at ha; simp at ha
  obtain ⟨eI, eD, _, _⟩ := eg_shape hE
  refine ⟨hE, ?_, ?_⟩
  · rw [eI, hl, hN]; exact strOf_toList _
  · rw [eD, hD]; exact strOf_toList _
theorem data_step {kn : Nat} {gs hs : List GR} (h1 : egE (kn : Int) gs = 0) (h2 : egE (kn : Int) hs = 0) (e : egD (kn : Int) gs = egD (kn : Int) hs) : ∀ j, j ≤ gs.length → j ≤ hs.length → (encD (gs.take j)).length = (encD (hs.take j)).length := by
  intro j
  induction j with
  | zero => intro _ _; simp [encD]
  | succ j ih =>
    intro a b
    have i := ih (by omega) (by omega)
    have x := (join_record h1 (show j < gs.length by omega)).1.2.2
    have y := (join_record h2 (show j < hs.length by omega)).1.2.2
    rw [← e, ← i, x] at y
    omega
theorem data_le {kn : Nat} {gs hs : List GR} (h1 : egE (kn : Int) gs = 0) (h2 : egE (kn : Int) hs = 0) (e : egD (kn : Int) gs = egD (kn : Int) hs) : hs.length ≤ gs.length := by
  rcases Nat.lt_or_ge gs.length hs.length with hc | hc
  · have s := data_step h1 h2 e gs.length (Nat.le_refl _) (by omega)
    rw [List.take_length] at s
    have t := encDn_take hs gs.length hc
    have u := encD_le hs (gs.length + 1)
    have z1 := (eg_shape h1).2.2.2
    have z2 := (eg_shape h2).2.2.2
    rw [e] at z1
    omega
  · exact hc
/-- the same data: the index is as long -/
theorem data_index {kn : Nat} {gs hs : List GR} (h1 : egE (kn : Int) gs = 0) (h2 : egE (kn : Int) hs = 0) (e : egD (kn : Int) gs = egD (kn : Int) hs) : (egI (kn : Int) gs).size = (egI (kn : Int) hs).size := by
  have := data_le h1 h2 e
  have := data_le h2 h1 e.symm
  rw [(eg_shape h1).2.2.1, (eg_shape h2).2.2.1, show gs.length = hs.length by omega]
/-- the same index: data that begin with the other's are as long -/
theorem index_data {kn : Nat} {gs hs : List GR} (h1 : egE (kn : Int) gs = 0) (h2 : egE (kn : Int) hs = 0) (e : egI (kn : Int) gs = egI (kn : Int) hs) (hp : (egD (kn : Int) gs).extract 0 (egD (kn : Int) hs).size = egD (kn : Int) hs) : (egD (kn : Int) hs).size = (egD (kn : Int) gs).size := by
  obtain ⟨hk, hin, _⟩ := eg_inv h1
  obtain ⟨_, hin2, _⟩ := eg_inv h2
  obtain ⟨_, d1, s1, z1⟩ := eg_shape h1
  obtain ⟨_, d2, s2, z2⟩ := eg_shape h2
  have hn : gs.length = hs.length := by
    rw [e, s2] at s1
    exact (Nat.eq_of_mul_eq_mul_right (by omega) s1).symm
  rcases Nat.eq_zero_or_pos gs.length with h0 | h0
  · have e1 := List.length_eq_zero_iff.1 h0
    have e2 := List.length_eq_zero_iff.1 (hn ▸ h0 : hs.length = 0)
    rw [e1, e2]
  · obtain ⟨j, hj⟩ : ∃ j, gs.length = j + 1 := ⟨gs.length - 1, by omega⟩
    have a1 : j < gs.length := by omega
    have a2 : j < hs.length := by omega
    have q1 := join_entry h1 a1
    have q2 := join_entry h2 a2
    rw [← e, q1] at q2
    have ho : (encD (gs.take j)).length = (encD (hs.take j)).length := by
      simp only [Ending.returned.injEq, Value.tuple.injEq, Array.mk.injEq, List.cons.injEq, Value.int.injEq, true_and, and_true] at q2
      omega
    have t1 := encDn_take gs j a1
    have t2 := encDn_take hs j a2
    rw [← hj, List.take_length] at t1
    rw [← hj, hn, List.take_length] at t2
    obtain ⟨fl, fp, fz, fs⟩ := fine (hin j a1).2.1
    obtain ⟨fl2, fp2, fz2, fs2⟩ := fine (hin2 j a2).2.1
    have c1 : (egD (kn : Int) gs).data.toList.drop (encD (gs.take j)).length = recL gs[j].2 ++ encD (gs.drop (j + 1)) := by
      rw [d1]
      show (encD gs).drop _ = _
      rw [encD_split a1, List.drop_left' rfl]
    have hle : (egD (kn : Int) hs).size ≤ (egD (kn : Int) gs).size := by
      have := congrArg ByteArray.size hp
      rw [ByteArray.size_extract] at this
      omega
    obtain ⟨R, c2⟩ : ∃ R, (egD (kn : Int) gs).data.toList = encD hs ++ R := by
      have l1 : ((egD (kn : Int) gs).extract 0 (egD (kn : Int) hs).size).data.toList = (egD (kn : Int) hs).data.toList := by rw [hp]
      rw [slice_str, List.drop_zero, Nat.sub_zero, z2] at l1
      have l2 : (egD (kn : Int) hs).data.toList = encD hs := by rw [d2]; rfl
      rw [l2] at l1
      exact ⟨_, by conv => lhs; rw [← List.take_append_drop (encD hs).length (egD (kn : Int) gs).data.toList, l1]⟩
    have c3 : (egD (kn : Int) gs).data.toList.drop (encD (gs.take j)).length = recL hs[j].2 ++ (encD (hs.drop (j + 1)) ++ R) := by
      rw [ho, c2, encD_split a2, List.append_assoc, List.drop_left' rfl, List.append_assoc]
    have hq : (encD (gs.take j)).length ≤ (egD (kn : Int) gs).size := by rw [z1]; omega
    have p1 := spell_there c1 hq (by omega) (fun i hi => ⟨by have := (fs i hi).1; omega, by have := (fs i hi).2; omega⟩)
    have p2 := spell_there c3 hq (by omega) (fun i hi => ⟨by have := (fs2 i hi).1; omega, by have := (fs2 i hi).2; omega⟩)
    rw [p1] at p2
    simp only [Option.some.injEq, Prod.mk.injEq] at p2
    have p3 := p2.2
    rw [recL_len, recL_len] at p3
    rw [z1, z2]
    omega
end Go.Proofs.Ythihmgdefbahpaa
namespace Go.Proofs.Ythihmgdefbahpaa
open Go.RowKit
theorem list_ne {α : Type} {a b : List α} {k : Nat} (h1 : k < a.length) (h2 : k < b.length) (h : a[k] ≠ b[k]) : a ≠ b := by
  intro e; subst e; exact h rfl
theorem list_eq {α : Type} {a b : List α} (hl : a.length = b.length) (h : ∀ t (h1 : t < a.length) (h2 : t < b.length), a[t] = b[t]) : a = b := List.ext_getElem hl h
set_option maxHeartbeats 2000000 in
set_option maxRecDepth 100000 in
set_option linter.unusedSimpArgs false in
/-- samePairs, of any two lists -/
theorem samePairs_dec (a1 a2 : Option Addr) (b1 o1 c1 b2 o2 c2 : Nat) (ps qs : List KV) (w : World) (h1 : 0 < ps.length → a1 = some ⟨b1, o1, none⟩) (h2 : 0 < qs.length → a2 = some ⟨b2, o2, none⟩) (hb1 : 0 < ps.length → b1 < w.heap.size) (hb2 : 0 < qs.length → b2 < w.heap.size) (l1 : LiesP b1 o1 w ps) (l2 : LiesP b2 o2 w qs) (hlen : ps.length ≤ 1099511627776000) (_ : qs.length ≤ 1099511627776000) :
    Calls Try.prog 22 #[.slice a1 ps.length c1, .slice a2 qs.length c2] w fun e w' => e = .returned (.bool (decide (ps = qs))) ∧ Below w.heap.size w w' := by
  have L1 := hide l1
  have L2 := hide l2
  clear l1 l2
  by_cases hl : ps.length = qs.length
  · have HL := hide hl
    have NE : Hid (∀ k (x : k < ps.length) (y : k < qs.length), ps[k] ≠ qs[k] → decide (ps = qs) = false) := fun k x y h => decide_eq_false (list_ne x y h)
    have EQ : Hid ((∀ t (x : t < ps.length) (y : t < qs.length), t < ps.length → ps[t] = qs[t]) → decide (ps = qs) = true) := fun h => decide_eq_true (list_eq HL.out (fun t x y => h t x y x))
    generalize decide (ps = qs) = DD at *
    rw [← hl]
    rw [← hl] at h2 hb2
    clear hl
    go_enter Try.func22, Try.ntmps22
    go_wp2_with fail
    go_loopw [5] (fun i wr => ∃ k : Nat, k ≤ ps.length ∧ i = .int .i64 k ∧ (∀ t (x : t < ps.length) (y : t < qs.length), t < k → ps[t] = qs[t]) ∧ Below w.heap.size w wr) (fun i _ => ps.length - (intOf i).toNat)
    case atStart => exact ⟨0, Nat.zero_le _, rfl, fun t _ _ ht => by omega, Below.refl _ _⟩
    case round =>
      obtain ⟨k, hk, rfl, hall, hnx⟩ := hrel
      have HALL := hide hall
      clear hall
      by_cases hlt : k < ps.length
      · have hlt2 : k < qs.length := by rw [← HL.out]; exact hlt
        obtain rfl := h1 (by omega)
        obtain rfl := h2 (by omega)
        obtain ⟨d1, d2⟩ := L1.out.below (hb1 (by omega)) hnx k hlt
        obtain ⟨d3, d4⟩ := L2.out.below (hb2 (by omega)) hnx k hlt2
        have hk1 : (k : Int) < (ps.length : Int) := by omega
        have HNX := hide hnx
        clear hnx
        by_cases e1 : ps[k].1 = qs[k].1
        · by_cases e2 : ps[k].2 = qs[k].2
          · have AL : Hid (∀ t (x : t < ps.length) (y : t < qs.length), t < k + 1 → ps[t] = qs[t]) := by
              intro t x y ht
              rcases Nat.lt_or_ge t k with h | h
              · exact HALL.out t x y h
              · obtain rfl : t = k := by omega
                exact Prod.ext e1 e2
            rw [← e1] at d3
            rw [← e2] at d4
            clear e1 e2
            generalize ps[k].1 = X at *
            generalize ps[k].2 = Y at *
            go_wp2_with fail
            go_quiet (fail)
            go_wp2
            go_roundw
            case rel => exact ⟨k + 1, by omega, by go_num, AL.out, below_drewN HNX.out _⟩
            case measure => simp [intOf]; omega
          · have F := hide (NE.out k hlt hlt2 (fun e => e2 (by rw [e])))
            have hb2 : (ps[k].2.toList == qs[k].2.toList) = false := by rw [eq_beq]; exact decide_eq_false e2
            have hb3 : (ps[k].2.toList != qs[k].2.toList) = true := by rw [bne, hb2]; rfl
            rw [← e1] at d3
            clear e1 e2
            generalize ps[k].1 = X at *
            generalize ps[k].2 = Y at *
            generalize qs[k].2 = Y2 at *
            go_wp2_with fail
            go_quiet (fail)
            go_wp2
            go_ret
            exact ⟨by rw [F.out]; rfl, below_drewN HNX.out _⟩
        · have F := hide (NE.out k hlt hlt2 (fun e => e1 (by rw [e])))
          have hb2 : (ps[k].1.toList == qs[k].1.toList) = false := by rw [eq_beq]; exact decide_eq_false e1
          have hb3 : (ps[k].1.toList != qs[k].1.toList) = true := by rw [bne, hb2]; rfl
          clear e1
          generalize ps[k].1 = X at *
          generalize ps[k].2 = Y at *
          generalize qs[k].1 = X2 at *
          generalize qs[k].2 = Y2 at *
          go_wp2_with fail
          go_quiet (fail)
          go_wp2
          go_ret
          exact ⟨by rw [F.out]; rfl, below_drewN HNX.out _⟩
      · have HNX := hide hnx
        have F := hide (EQ.out (fun t x y _ => HALL.out t x y (by omega)))
        clear hnx
        go_wp2
        go_ret
        exact ⟨by rw [F.out]; rfl, HNX.out⟩
  · have F : Hid (decide (ps = qs) = false) := decide_eq_false (fun e => hl (by rw [e]))
    have hli : ((ps.length : Int) == (qs.length : Int)) = false := by simp; omega
    have hln : ¬ (ps.length : Int) = (qs.length : Int) := by omega
    go_enter Try.func22, Try.ntmps22
    go_wp2_with fail
    go_ret
    exact ⟨by rw [F.out]; rfl, Below.refl _ _⟩
end Go.Proofs.Ythihmgdefbahpaa
namespace Go.Proofs.Ythihmgdefbahpaa
open Go.RowKit
set_option maxHeartbeats 4000000 in
set_option maxRecDepth 100000 in
set_option linter.unusedSimpArgs false in
/-- sameGroups, of any two lists -/
theorem sameGroups_dec (v1 v2 : Value) (b1 b2 : Nat) (gs hs : List GR) (w : World) (h1 : GroupsAt w b1 v1 gs) (h2 : GroupsAt w b2 v2 hs) (hlen : gs.length ≤ 1099511627776) (_ : hs.length ≤ 1099511627776) (hps : ∀ g ∈ gs, g.2.length ≤ 1099511627776) (hqs : ∀ g ∈ hs, g.2.length ≤ 1099511627776) :
    Calls Try.prog 26 #[v1, v2] w fun e w' => e = .returned (.bool (decide (gs = hs))) ∧ Below w.heap.size w w' := by
  obtain ⟨a1, g1, c1, rfl, h11, h12, h13⟩ := h1.split
  obtain ⟨a2, g2, c2, rfl, h21, h22, h23⟩ := h2.split
  have H13 := hide h13
  have H23 := hide h23
  have HPS := hide hps
  have HQS := hide hqs
  clear h1 h2 h13 h23 hps hqs
  by_cases hl : gs.length = hs.length
  · have HL := hide hl
    have NE : Hid (∀ k (x : k < gs.length) (y : k < hs.length), gs[k] ≠ hs[k] → decide (gs = hs) = false) := fun k x y h => decide_eq_false (list_ne x y h)
    have EQ : Hid ((∀ t (x : t < gs.length) (y : t < hs.length), t < gs.length → gs[t] = hs[t]) → decide (gs = hs) = true) := fun h => decide_eq_true (list_eq HL.out (fun t x y => h t x y x))
    generalize decide (gs = hs) = DD at *
    obtain ⟨GN, hGN⟩ : ∃ GN, GN = gs.length := ⟨_, rfl⟩
    have HGN := hide hGN
    rw [← hl, ← hGN]
    rw [← hl, ← hGN] at h21 h22
    rw [← hGN] at h11 h12 hlen
    clear hl hGN
    go_enter Try.func26, Try.ntmps26
    go_wp2_with fail
    go_loopw [5] (fun i wr => ∃ k : Nat, k ≤ GN ∧ i = .int .i64 k ∧ (∀ t (x : t < gs.length) (y : t < hs.length), t < k → gs[t] = hs[t]) ∧ Below w.heap.size w wr) (fun i _ => GN - (intOf i).toNat)
    case atStart => exact ⟨0, Nat.zero_le _, rfl, fun t _ _ ht => by omega, Below.refl _ _⟩
    case round =>
      obtain ⟨k, hk, rfl, hall, hnx⟩ := hrel
      have HALL := hide hall
      clear hall
      by_cases hlt0 : k < GN
      · have hlt : k < gs.length := by rw [← HGN.out]; exact hlt0
        have hlt2 : k < hs.length := by rw [← HL.out]; exact hlt
        obtain rfl := h11 (by omega)
        obtain rfl := h21 (by omega)
        have t1 := h12 (by omega)
        have t2 := h22 (by omega)
        obtain ⟨p1, d1, d2, d3⟩ := H13.out k hlt
        obtain ⟨p2, d4, d5, d6⟩ := H23.out k hlt2
        rw [← hnx.cell (by exact t1)] at d1 d2
        rw [← hnx.cell (by exact t2)] at d4 d5
        have o1 := own_below d3 hnx
        have o2 := own_below d6 hnx
        obtain ⟨q1, r1, u1, rfl, x11, x12, x13⟩ := own_pairs o1
        obtain ⟨q2, r2, u2, rfl, x21, x22, x23⟩ := own_pairs o2
        have hkl := HPS.out gs[k] (List.getElem_mem hlt)
        have hkl2 := HQS.out hs[k] (List.getElem_mem hlt2)
        have SP := hide (fun w' (hb : Below wr.heap.size wr w') => samePairs_dec q1 q2 r1 0 u1 r2 0 u2 gs[k].2 hs[k].2 w' x11 x21 (fun h => Nat.lt_of_lt_of_le (x12 h) hb.size) (fun h => Nat.lt_of_lt_of_le (x22 h) hb.size) (fun i hi => by have := x12 (by omega); exact x13.below this hb i hi) (fun i hi => by have := x22 (by omega); exact x23.below this hb i hi) (by omega) (by omega))
        have hk1 : (k : Int) < (GN : Int) := by omega
        have HNX := hide hnx
        clear hnx o1 o2 d3 d6 x11 x12 x13 x21 x22 x23 hkl hkl2
        have AL : Hid (gs[k].1 = hs[k].1 → gs[k].2 = hs[k].2 → ∀ t (x : t < gs.length) (y : t < hs.length), t < k + 1 → gs[t] = hs[t]) := by
          intro e1 e2 t x y ht
          rcases Nat.lt_or_ge t k with h | h
          · exact HALL.out t x y h
          · obtain rfl : t = k := by omega
            exact Prod.ext e1 e2
        have F1 : Hid (gs[k].1 ≠ hs[k].1 → DD = false) := fun e => NE.out k hlt hlt2 (fun q => e (by rw [q]))
        have F2 : Hid (gs[k].2 ≠ hs[k].2 → DD = false) := fun e => NE.out k hlt hlt2 (fun q => e (by rw [q]))
        generalize gs[k].1 = X at *
        generalize gs[k].2 = Y at *
        generalize hs[k].1 = X2 at *
        generalize hs[k].2 = Z at *
        have HK : Hid (∀ w', Below wr.heap.size wr w' → World.cell? w' ⟨g1, k * 2, none⟩ = some (.string X) ∧ World.cell? w' ⟨g1, k * 2 + 1, none⟩ = some (.slice q1 Y.length u1) ∧ World.cell? w' ⟨g2, k * 2, none⟩ = some (.string X2) ∧ World.cell? w' ⟨g2, k * 2 + 1, none⟩ = some (.slice q2 Z.length u2)) := fun w' hb => by
          have l1 : g1 < wr.heap.size := Nat.lt_of_lt_of_le t1 HNX.out.size
          have l2 : g2 < wr.heap.size := Nat.lt_of_lt_of_le t2 HNX.out.size
          rw [hb.cell (by exact l1), hb.cell (by exact l1), hb.cell (by exact l2), hb.cell (by exact l2)]
          exact ⟨d1, d2, d4, d5⟩
        clear d1 d2 d4 d5
        by_cases e1 : X = X2
        · subst e1
          by_cases e2 : Y = Z
          · have A2 := hide (AL.out rfl e2)
            rw [decide_eq_true e2] at SP
            clear e2 AL F1 F2
            go_wp2_with fail
            refine wp_region_held_drew (S := fun w' => w'.cell? ⟨g1, k * 2, none⟩ = some (.string X) ∧ w'.cell? ⟨g1, k * 2 + 1, none⟩ = some (.slice q1 Y.length u1) ∧ w'.cell? ⟨g2, k * 2, none⟩ = some (.string X) ∧ w'.cell? ⟨g2, k * 2 + 1, none⟩ = some (.slice q2 Z.length u2)) (by kernel_rfl) (HK.out _ (Below.refl _ _).drew) (fun hHeld => ?_)
            refine wpAnyH_take (i := 0) (v := (.slice (some ⟨g1, 0, none⟩) GN c1)) rfl (by kernel_rfl) (by kernel_rfl) (by kernel_rfl) (fun _ _ _ h => h) (Or.inl ⟨by rfl, ?_⟩) (by assumption) ?_
            · intro w' hSw
              (try dsimp only at hSw)
              go_simp <;> first | exact i64_in (by omega) (by omega) | exact u32_in (by omega) (by omega) | exact u32_add _ _ | (rw [Int.tmod_eq_emod_of_nonneg (by omega)]; omega) | (rw [Int.tdiv_eq_ediv_of_nonneg (by omega)]; omega) | omega
            (try simp only [Act.put, List.setIfInBounds_toArray, List.set_cons_zero, List.set_cons_succ])
            refine wpAnyH_take (i := 1) (v := (.int .i64 (k : Int))) rfl (by kernel_rfl) (by kernel_rfl) (by kernel_rfl) (fun _ _ _ h => h) (Or.inl ⟨by rfl, ?_⟩) (by assumption) ?_
            · intro w' hSw
              (try dsimp only at hSw)
              go_simp <;> first | exact i64_in (by omega) (by omega) | exact u32_in (by omega) (by omega) | exact u32_add _ _ | (rw [Int.tmod_eq_emod_of_nonneg (by omega)]; omega) | (rw [Int.tdiv_eq_ediv_of_nonneg (by omega)]; omega) | omega
            (try simp only [Act.put, List.setIfInBounds_toArray, List.set_cons_zero, List.set_cons_succ])
            refine wpAnyH_take (i := 2) (v := (.pointer (some ⟨g1, k * 2, none⟩))) rfl (by kernel_rfl) (by kernel_rfl) (by kernel_rfl) (fun _ _ _ h => h) (Or.inl ⟨by rfl, ?_⟩) (by assumption) ?_
            · intro w' hSw
              (try dsimp only at hSw)
              go_simp <;> first | exact i64_in (by omega) (by omega) | exact u32_in (by omega) (by omega) | exact u32_add _ _ | (rw [Int.tmod_eq_emod_of_nonneg (by omega)]; omega) | (rw [Int.tdiv_eq_ediv_of_nonneg (by omega)]; omega) | omega
            (try simp only [Act.put, List.setIfInBounds_toArray, List.set_cons_zero, List.set_cons_succ])
            refine wpAnyH_take (i := 3) (v := (.pointer (some ⟨g1, k * 2, none⟩))) rfl (by kernel_rfl) (by kernel_rfl) (by kernel_rfl) (fun _ _ _ h => h) (Or.inl ⟨by rfl, ?_⟩) (by assumption) ?_
            · intro w' hSw
              (try dsimp only at hSw)
              go_simp <;> first | exact i64_in (by omega) (by omega) | exact u32_in (by omega) (by omega) | exact u32_add _ _ | (rw [Int.tmod_eq_emod_of_nonneg (by omega)]; omega) | (rw [Int.tdiv_eq_ediv_of_nonneg (by omega)]; omega) | omega
            (try simp only [Act.put, List.setIfInBounds_toArray, List.set_cons_zero, List.set_cons_succ])
            refine wpAnyH_take (i := 4) (v := (.string X)) rfl (by kernel_rfl) (by kernel_rfl) (by kernel_rfl) (fun _ _ _ h => h) (Or.inl ⟨by rfl, ?_⟩) (by assumption) ?_
            · intro w' hSw
              (try dsimp only at hSw)
              (obtain ⟨hS1, hS2, hS3, hS4⟩ := hSw; go_simp)
            (try simp only [Act.put, List.setIfInBounds_toArray, List.set_cons_zero, List.set_cons_succ])
            refine wpAnyH_take (i := 5) (v := (.slice (some ⟨g2, 0, none⟩) GN c2)) rfl (by kernel_rfl) (by kernel_rfl) (by kernel_rfl) (fun _ _ _ h => h) (Or.inl ⟨by rfl, ?_⟩) (by assumption) ?_
            · intro w' hSw
              (try dsimp only at hSw)
              go_simp <;> first | exact i64_in (by omega) (by omega) | exact u32_in (by omega) (by omega) | exact u32_add _ _ | (rw [Int.tmod_eq_emod_of_nonneg (by omega)]; omega) | (rw [Int.tdiv_eq_ediv_of_nonneg (by omega)]; omega) | omega
            (try simp only [Act.put, List.setIfInBounds_toArray, List.set_cons_zero, List.set_cons_succ])
            refine wpAnyH_take (i := 6) (v := (.int .i64 (k : Int))) rfl (by kernel_rfl) (by kernel_rfl) (by kernel_rfl) (fun _ _ _ h => h) (Or.inl ⟨by rfl, ?_⟩) (by assumption) ?_
            · intro w' hSw
              (try dsimp only at hSw)
              go_simp <;> first | exact i64_in (by omega) (by omega) | exact u32_in (by omega) (by omega) | exact u32_add _ _ | (rw [Int.tmod_eq_emod_of_nonneg (by omega)]; omega) | (rw [Int.tdiv_eq_ediv_of_nonneg (by omega)]; omega) | omega
            (try simp only [Act.put, List.setIfInBounds_toArray, List.set_cons_zero, List.set_cons_succ])
            refine wpAnyH_take (i := 7) (v := (.pointer (some ⟨g2, k * 2, none⟩))) rfl (by kernel_rfl) (by kernel_rfl) (by kernel_rfl) (fun _ _ _ h => h) (Or.inl ⟨by rfl, ?_⟩) (by assumption) ?_
            · intro w' hSw
              (try dsimp only at hSw)
              go_simp <;> first | exact i64_in (by omega) (by omega) | exact u32_in (by omega) (by omega) | exact u32_add _ _ | (rw [Int.tmod_eq_emod_of_nonneg (by omega)]; omega) | (rw [Int.tdiv_eq_ediv_of_nonneg (by omega)]; omega) | omega
            (try simp only [Act.put, List.setIfInBounds_toArray, List.set_cons_zero, List.set_cons_succ])
            refine wpAnyH_take (i := 8) (v := (.pointer (some ⟨g2, k * 2, none⟩))) rfl (by kernel_rfl) (by kernel_rfl) (by kernel_rfl) (fun _ _ _ h => h) (Or.inl ⟨by rfl, ?_⟩) (by assumption) ?_
            · intro w' hSw
              (try dsimp only at hSw)
              go_simp <;> first | exact i64_in (by omega) (by omega) | exact u32_in (by omega) (by omega) | exact u32_add _ _ | (rw [Int.tmod_eq_emod_of_nonneg (by omega)]; omega) | (rw [Int.tdiv_eq_ediv_of_nonneg (by omega)]; omega) | omega
            (try simp only [Act.put, List.setIfInBounds_toArray, List.set_cons_zero, List.set_cons_succ])
            refine wpAnyH_take (i := 9) (v := (.string X)) rfl (by kernel_rfl) (by kernel_rfl) (by kernel_rfl) (fun _ _ _ h => h) (Or.inl ⟨by rfl, ?_⟩) (by assumption) ?_
            · intro w' hSw
              (try dsimp only at hSw)
              (obtain ⟨hS1, hS2, hS3, hS4⟩ := hSw; go_simp)
            (try simp only [Act.put, List.setIfInBounds_toArray, List.set_cons_zero, List.set_cons_succ])
            refine wpAnyH_take (i := 10) (v := (.bool false)) rfl (by kernel_rfl) (by kernel_rfl) (by kernel_rfl) (fun _ _ _ h => h) (Or.inl ⟨by rfl, ?_⟩) (by assumption) ?_
            · intro w' hSw
              (try dsimp only at hSw)
              go_simp <;> first | exact i64_in (by omega) (by omega) | exact u32_in (by omega) (by omega) | exact u32_add _ _ | (rw [Int.tmod_eq_emod_of_nonneg (by omega)]; omega) | (rw [Int.tdiv_eq_ediv_of_nonneg (by omega)]; omega) | omega
            (try simp only [Act.put, List.setIfInBounds_toArray, List.set_cons_zero, List.set_cons_succ])
            refine wpAnyH_take (i := 11) (v := (.bool false)) rfl (by kernel_rfl) (by kernel_rfl) (by kernel_rfl) (fun _ _ _ h => h) (Or.inl ⟨by rfl, ?_⟩) (by assumption) ?_
            · intro w' hSw
              (try dsimp only at hSw)
              go_simp <;> first | exact i64_in (by omega) (by omega) | exact u32_in (by omega) (by omega) | exact u32_add _ _ | (rw [Int.tmod_eq_emod_of_nonneg (by omega)]; omega) | (rw [Int.tdiv_eq_ediv_of_nonneg (by omega)]; omega) | omega
            (try simp only [Act.put, List.setIfInBounds_toArray, List.set_cons_zero, List.set_cons_succ])
            refine wpAnyH_take (i := 12) (v := (.slice (some ⟨g1, 0, none⟩) GN c1)) rfl (by kernel_rfl) (by kernel_rfl) (by kernel_rfl) (fun _ _ _ h => h) (Or.inl ⟨by kernel_rfl, ?_⟩) (by assumption) ?_
            · intro w' hSw
              (try dsimp only at hSw)
              go_simp
            (try simp only [Act.put, List.setIfInBounds_toArray, List.set_cons_zero, List.set_cons_succ])
            refine wpAnyH_take (i := 13) (v := (.int .i64 (k : Int))) rfl (by kernel_rfl) (by kernel_rfl) (by kernel_rfl) (fun _ _ _ h => h) (Or.inl ⟨by kernel_rfl, ?_⟩) (by assumption) ?_
            · intro w' hSw
              (try dsimp only at hSw)
              go_simp
            (try simp only [Act.put, List.setIfInBounds_toArray, List.set_cons_zero, List.set_cons_succ])
            refine wpAnyH_take (i := 14) (v := (.pointer (some ⟨g1, k * 2, none⟩))) rfl (by kernel_rfl) (by kernel_rfl) (by kernel_rfl) (fun _ _ _ h => h) (Or.inl ⟨by kernel_rfl, ?_⟩) (by assumption) ?_
            · intro w' hSw
              (try dsimp only at hSw)
              go_simp
            (try simp only [Act.put, List.setIfInBounds_toArray, List.set_cons_zero, List.set_cons_succ])
            refine wpAnyH_take (i := 15) (v := (.pointer (some ⟨g1, k * 2 + 1, none⟩))) rfl (by kernel_rfl) (by kernel_rfl) (by kernel_rfl) (fun _ _ _ h => h) (Or.inl ⟨by kernel_rfl, ?_⟩) (by assumption) ?_
            · intro w' hSw
              (try dsimp only at hSw)
              go_simp
            (try simp only [Act.put, List.setIfInBounds_toArray, List.set_cons_zero, List.set_cons_succ])
            refine wpAnyH_take (i := 16) (v := (.slice q1 Y.length u1)) rfl (by kernel_rfl) (by kernel_rfl) (by kernel_rfl) (fun _ _ _ h => h) (Or.inl ⟨by kernel_rfl, ?_⟩) (by assumption) ?_
            · intro w' hSw
              (try dsimp only at hSw)
              (obtain ⟨hS1, hS2, hS3, hS4⟩ := hSw; go_simp)
            (try simp only [Act.put, List.setIfInBounds_toArray, List.set_cons_zero, List.set_cons_succ])
            refine wpAnyH_take (i := 17) (v := (.slice (some ⟨g2, 0, none⟩) GN c2)) rfl (by kernel_rfl) (by kernel_rfl) (by kernel_rfl) (fun _ _ _ h => h) (Or.inl ⟨by kernel_rfl, ?_⟩) (by assumption) ?_
            · intro w' hSw
              (try dsimp only at hSw)
              go_simp
            (try simp only [Act.put, List.setIfInBounds_toArray, List.set_cons_zero, List.set_cons_succ])
            refine wpAnyH_take (i := 18) (v := (.int .i64 (k : Int))) rfl (by kernel_rfl) (by kernel_rfl) (by kernel_rfl) (fun _ _ _ h => h) (Or.inl ⟨by kernel_rfl, ?_⟩) (by assumption) ?_
            · intro w' hSw
              (try dsimp only at hSw)
              go_simp
            (try simp only [Act.put, List.setIfInBounds_toArray, List.set_cons_zero, List.set_cons_succ])
            refine wpAnyH_take (i := 19) (v := (.pointer (some ⟨g2, k * 2, none⟩))) rfl (by kernel_rfl) (by kernel_rfl) (by kernel_rfl) (fun _ _ _ h => h) (Or.inl ⟨by kernel_rfl, ?_⟩) (by assumption) ?_
            · intro w' hSw
              (try dsimp only at hSw)
              go_simp
            (try simp only [Act.put, List.setIfInBounds_toArray, List.set_cons_zero, List.set_cons_succ])
            refine wpAnyH_take (i := 20) (v := (.pointer (some ⟨g2, k * 2 + 1, none⟩))) rfl (by kernel_rfl) (by kernel_rfl) (by kernel_rfl) (fun _ _ _ h => h) (Or.inl ⟨by kernel_rfl, ?_⟩) (by assumption) ?_
            · intro w' hSw
              (try dsimp only at hSw)
              go_simp
            (try simp only [Act.put, List.setIfInBounds_toArray, List.set_cons_zero, List.set_cons_succ])
            refine wpAnyH_take (i := 21) (v := (.slice q2 Z.length u2)) rfl (by kernel_rfl) (by kernel_rfl) (by kernel_rfl) (fun _ _ _ h => h) (Or.inl ⟨by kernel_rfl, ?_⟩) (by assumption) ?_
            · intro w' hSw
              (try dsimp only at hSw)
              (obtain ⟨hS1, hS2, hS3, hS4⟩ := hSw; go_simp)
            (try simp only [Act.put, List.setIfInBounds_toArray, List.set_cons_zero, List.set_cons_succ])
            refine wpAnyH_ready (rs := [22]) (by kernel_rfl) (by simp) ?_
            refine AllReadyH.cons rfl (fun K hK => ?_) AllReadyH.nil
            go_simp
            refine Calls.mono (SP.out _ (Below.refl _ _).drew) ?_
            rintro e w2 ⟨rfl, hb2⟩
            have B2 := (Below.refl wr.heap.size wr).drew.trans hb2
            refine hK.out _ _ (HK.out _ B2) (fun hHeld => ?_)
            clear hK
            (try simp only [Act.put, List.setIfInBounds_toArray, List.set_cons_zero, List.set_cons_succ])
            refine wpAnyH_ready (rs := [23]) (by kernel_rfl) (by simp) ?_
            refine AllReadyH.cons rfl (fun K hK => ?_) AllReadyH.nil
            go_simp
            refine hK.out _ _ (HK.out _ B2) (fun hHeld => ?_)
            clear hK
            (try simp only [Act.put, List.setIfInBounds_toArray, List.set_cons_zero, List.set_cons_succ])
            refine wpAnyH_ready (rs := [24]) (by kernel_rfl) (by simp) ?_
            refine AllReadyH.cons rfl (fun K hK => ?_) AllReadyH.nil
            go_simp
            refine hK.out _ _ (HK.out _ B2) (fun hHeld => ?_)
            clear hK
            (try simp only [Act.put, List.setIfInBounds_toArray, List.set_cons_zero, List.set_cons_succ])
            refine wpAnyH_done (by kernel_rfl) ?_ _
            go_wp2
            go_roundw
            case rel => exact ⟨k + 1, by omega, by go_num, A2.out, HNX.out.trans (B2.mono HNX.out.size)⟩
            case measure => simp [intOf]; omega
          · have F := hide (F2.out e2)
            rw [decide_eq_false e2] at SP
            clear e2 AL F1 F2
            go_wp2_with fail
            refine wp_region_held_drew (S := fun w' => w'.cell? ⟨g1, k * 2, none⟩ = some (.string X) ∧ w'.cell? ⟨g1, k * 2 + 1, none⟩ = some (.slice q1 Y.length u1) ∧ w'.cell? ⟨g2, k * 2, none⟩ = some (.string X) ∧ w'.cell? ⟨g2, k * 2 + 1, none⟩ = some (.slice q2 Z.length u2)) (by kernel_rfl) (HK.out _ (Below.refl _ _).drew) (fun hHeld => ?_)
            refine wpAnyH_take (i := 0) (v := (.slice (some ⟨g1, 0, none⟩) GN c1)) rfl (by kernel_rfl) (by kernel_rfl) (by kernel_rfl) (fun _ _ _ h => h) (Or.inl ⟨by rfl, ?_⟩) (by assumption) ?_
            · intro w' hSw
              (try dsimp only at hSw)
              go_simp <;> first | exact i64_in (by omega) (by omega) | exact u32_in (by omega) (by omega) | exact u32_add _ _ | (rw [Int.tmod_eq_emod_of_nonneg (by omega)]; omega) | (rw [Int.tdiv_eq_ediv_of_nonneg (by omega)]; omega) | omega
            (try simp only [Act.put, List.setIfInBounds_toArray, List.set_cons_zero, List.set_cons_succ])
            refine wpAnyH_take (i := 1) (v := (.int .i64 (k : Int))) rfl (by kernel_rfl) (by kernel_rfl) (by kernel_rfl) (fun _ _ _ h => h) (Or.inl ⟨by rfl, ?_⟩) (by assumption) ?_
            · intro w' hSw
              (try dsimp only at hSw)
              go_simp <;> first | exact i64_in (by omega) (by omega) | exact u32_in (by omega) (by omega) | exact u32_add _ _ | (rw [Int.tmod_eq_emod_of_nonneg (by omega)]; omega) | (rw [Int.tdiv_eq_ediv_of_nonneg (by omega)]; omega) | omega
            (try simp only [Act.put, List.setIfInBounds_toArray, List.set_cons_zero, List.set_cons_succ])
            refine wpAnyH_take (i := 2) (v := (.pointer (some ⟨g1, k * 2, none⟩))) rfl (by kernel_rfl) (by kernel_rfl) (by kernel_rfl) (fun _ _ _ h => h) (Or.inl ⟨by rfl, ?_⟩) (by assumption) ?_
            · intro w' hSw
              (try dsimp only at hSw)
              go_simp <;> first | exact i64_in (by omega) (by omega) | exact u32_in (by omega) (by omega) | exact u32_add _ _ | (rw [Int.tmod_eq_emod_of_nonneg (by omega)]; omega) | (rw [Int.tdiv_eq_ediv_of_nonneg (by omega)]; omega) | omega
            (try simp only [Act.put, List.setIfInBounds_toArray, List.set_cons_zero, List.set_cons_succ])
            refine wpAnyH_take (i := 3) (v := (.pointer (some ⟨g1, k * 2, none⟩))) rfl (by kernel_rfl) (by kernel_rfl) (by kernel_rfl) (fun _ _ _ h => h) (Or.inl ⟨by rfl, ?_⟩) (by assumption) ?_
            · intro w' hSw
              (try dsimp only at hSw)
              go_simp <;> first | exact i64_in (by omega) (by omega) | exact u32_in (by omega) (by omega) | exact u32_add _ _ | (rw [Int.tmod_eq_emod_of_nonneg (by omega)]; omega) | (rw [Int.tdiv_eq_ediv_of_nonneg (by omega)]; omega) | omega
            (try simp only [Act.put, List.setIfInBounds_toArray, List.set_cons_zero, List.set_cons_succ])
            refine wpAnyH_take (i := 4) (v := (.string X)) rfl (by kernel_rfl) (by kernel_rfl) (by kernel_rfl) (fun _ _ _ h => h) (Or.inl ⟨by rfl, ?_⟩) (by assumption) ?_
            · intro w' hSw
              (try dsimp only at hSw)
              (obtain ⟨hS1, hS2, hS3, hS4⟩ := hSw; go_simp)
            (try simp only [Act.put, List.setIfInBounds_toArray, List.set_cons_zero, List.set_cons_succ])
            refine wpAnyH_take (i := 5) (v := (.slice (some ⟨g2, 0, none⟩) GN c2)) rfl (by kernel_rfl) (by kernel_rfl) (by kernel_rfl) (fun _ _ _ h => h) (Or.inl ⟨by rfl, ?_⟩) (by assumption) ?_
            · intro w' hSw
              (try dsimp only at hSw)
              go_simp <;> first | exact i64_in (by omega) (by omega) | exact u32_in (by omega) (by omega) | exact u32_add _ _ | (rw [Int.tmod_eq_emod_of_nonneg (by omega)]; omega) | (rw [Int.tdiv_eq_ediv_of_nonneg (by omega)]; omega) | omega
            (try simp only [Act.put, List.setIfInBounds_toArray, List.set_cons_zero, List.set_cons_succ])
            refine wpAnyH_take (i := 6) (v := (.int .i64 (k : Int))) rfl (by kernel_rfl) (by kernel_rfl) (by kernel_rfl) (fun _ _ _ h => h) (Or.inl ⟨by rfl, ?_⟩) (by assumption) ?_
            · intro w' hSw
              (try dsimp only at hSw)
              go_simp <;> first | exact i64_in (by omega) (by omega) | exact u32_in (by omega) (by omega) | exact u32_add _ _ | (rw [Int.tmod_eq_emod_of_nonneg (by omega)]; omega) | (rw [Int.tdiv_eq_ediv_of_nonneg (by omega)]; omega) | omega
            (try simp only [Act.put, List.setIfInBounds_toArray, List.set_cons_zero, List.set_cons_succ])
            refine wpAnyH_take (i := 7) (v := (.pointer (some ⟨g2, k * 2, none⟩))) rfl (by kernel_rfl) (by kernel_rfl) (by kernel_rfl) (fun _ _ _ h => h) (Or.inl ⟨by rfl, ?_⟩) (by assumption) ?_
            · intro w' hSw
              (try dsimp only at hSw)
              go_simp <;> first | exact i64_in (by omega) (by omega) | exact u32_in (by omega) (by omega) | exact u32_add _ _ | (rw [Int.tmod_eq_emod_of_nonneg (by omega)]; omega) | (rw [Int.tdiv_eq_ediv_of_nonneg (by omega)]; omega) | omega
            (try simp only [Act.put, List.setIfInBounds_toArray, List.set_cons_zero, List.set_cons_succ])
            refine wpAnyH_take (i := 8) (v := (.pointer (some ⟨g2, k * 2, none⟩))) rfl (by kernel_rfl) (by kernel_rfl) (by kernel_rfl) (fun _ _ _ h => h) (Or.inl ⟨by rfl, ?_⟩) (by assumption) ?_
            · intro w' hSw
              (try dsimp only at hSw)
              go_simp <;> first | exact i64_in (by omega) (by omega) | exact u32_in (by omega) (by omega) | exact u32_add _ _ | (rw [Int.tmod_eq_emod_of_nonneg (by omega)]; omega) | (rw [Int.tdiv_eq_ediv_of_nonneg (by omega)]; omega) | omega
            (try simp only [Act.put, List.setIfInBounds_toArray, List.set_cons_zero, List.set_cons_succ])
            refine wpAnyH_take (i := 9) (v := (.string X)) rfl (by kernel_rfl) (by kernel_rfl) (by kernel_rfl) (fun _ _ _ h => h) (Or.inl ⟨by rfl, ?_⟩) (by assumption) ?_
            · intro w' hSw
              (try dsimp only at hSw)
              (obtain ⟨hS1, hS2, hS3, hS4⟩ := hSw; go_simp)
            (try simp only [Act.put, List.setIfInBounds_toArray, List.set_cons_zero, List.set_cons_succ])
            refine wpAnyH_take (i := 10) (v := (.bool false)) rfl (by kernel_rfl) (by kernel_rfl) (by kernel_rfl) (fun _ _ _ h => h) (Or.inl ⟨by rfl, ?_⟩) (by assumption) ?_
            · intro w' hSw
              (try dsimp only at hSw)
              go_simp <;> first | exact i64_in (by omega) (by omega) | exact u32_in (by omega) (by omega) | exact u32_add _ _ | (rw [Int.tmod_eq_emod_of_nonneg (by omega)]; omega) | (rw [Int.tdiv_eq_ediv_of_nonneg (by omega)]; omega) | omega
            (try simp only [Act.put, List.setIfInBounds_toArray, List.set_cons_zero, List.set_cons_succ])
            refine wpAnyH_take (i := 11) (v := (.bool false)) rfl (by kernel_rfl) (by kernel_rfl) (by kernel_rfl) (fun _ _ _ h => h) (Or.inl ⟨by rfl, ?_⟩) (by assumption) ?_
            · intro w' hSw
              (try dsimp only at hSw)
              go_simp <;> first | exact i64_in (by omega) (by omega) | exact u32_in (by omega) (by omega) | exact u32_add _ _ | (rw [Int.tmod_eq_emod_of_nonneg (by omega)]; omega) | (rw [Int.tdiv_eq_ediv_of_nonneg (by omega)]; omega) | omega
            (try simp only [Act.put, List.setIfInBounds_toArray, List.set_cons_zero, List.set_cons_succ])
            refine wpAnyH_take (i := 12) (v := (.slice (some ⟨g1, 0, none⟩) GN c1)) rfl (by kernel_rfl) (by kernel_rfl) (by kernel_rfl) (fun _ _ _ h => h) (Or.inl ⟨by kernel_rfl, ?_⟩) (by assumption) ?_
            · intro w' hSw
              (try dsimp only at hSw)
              go_simp
            (try simp only [Act.put, List.setIfInBounds_toArray, List.set_cons_zero, List.set_cons_succ])
            refine wpAnyH_take (i := 13) (v := (.int .i64 (k : Int))) rfl (by kernel_rfl) (by kernel_rfl) (by kernel_rfl) (fun _ _ _ h => h) (Or.inl ⟨by kernel_rfl, ?_⟩) (by assumption) ?_
            · intro w' hSw
              (try dsimp only at hSw)
              go_simp
            (try simp only [Act.put, List.setIfInBounds_toArray, List.set_cons_zero, List.set_cons_succ])
            refine wpAnyH_take (i := 14) (v := (.pointer (some ⟨g1, k * 2, none⟩))) rfl (by kernel_rfl) (by kernel_rfl) (by kernel_rfl) (fun _ _ _ h => h) (Or.inl ⟨by kernel_rfl, ?_⟩) (by assumption) ?_
            · intro w' hSw
              (try dsimp only at hSw)
              go_simp
            (try simp only [Act.put, List.setIfInBounds_toArray, List.set_cons_zero, List.set_cons_succ])
            refine wpAnyH_take (i := 15) (v := (.pointer (some ⟨g1, k * 2 + 1, none⟩))) rfl (by kernel_rfl) (by kernel_rfl) (by kernel_rfl) (fun _ _ _ h => h) (Or.inl ⟨by kernel_rfl, ?_⟩) (by assumption) ?_
            · intro w' hSw
              (try dsimp only at hSw)
              go_simp
            (try simp only [Act.put, List.setIfInBounds_toArray, List.set_cons_zero, List.set_cons_succ])
            refine wpAnyH_take (i := 16) (v := (.slice q1 Y.length u1)) rfl (by kernel_rfl) (by kernel_rfl) (by kernel_rfl) (fun _ _ _ h => h) (Or.inl ⟨by kernel_rfl, ?_⟩) (by assumption) ?_
            · intro w' hSw
              (try dsimp only at hSw)
              (obtain ⟨hS1, hS2, hS3, hS4⟩ := hSw; go_simp)
            (try simp only [Act.put, List.setIfInBounds_toArray, List.set_cons_zero, List.set_cons_succ])
            refine wpAnyH_take (i := 17) (v := (.slice (some ⟨g2, 0, none⟩) GN c2)) rfl (by kernel_rfl) (by kernel_rfl) (by kernel_rfl) (fun _ _ _ h => h) (Or.inl ⟨by kernel_rfl, ?_⟩) (by assumption) ?_
            · intro w' hSw
              (try dsimp only at hSw)
              go_simp
            (try simp only [Act.put, List.setIfInBounds_toArray, List.set_cons_zero, List.set_cons_succ])
            refine wpAnyH_take (i := 18) (v := (.int .i64 (k : Int))) rfl (by kernel_rfl) (by kernel_rfl) (by kernel_rfl) (fun _ _ _ h => h) (Or.inl ⟨by kernel_rfl, ?_⟩) (by assumption) ?_
            · intro w' hSw
              (try dsimp only at hSw)
              go_simp
            (try simp only [Act.put, List.setIfInBounds_toArray, List.set_cons_zero, List.set_cons_succ])
            refine wpAnyH_take (i := 19) (v := (.pointer (some ⟨g2, k * 2, none⟩))) rfl (by kernel_rfl) (by kernel_rfl) (by kernel_rfl) (fun _ _ _ h => h) (Or.inl ⟨by kernel_rfl, ?_⟩) (by assumption) ?_
            · intro w' hSw
              (try dsimp only at hSw)
              go_simp
            (try simp only [Act.put, List.setIfInBounds_toArray, List.set_cons_zero, List.set_cons_succ])
            refine wpAnyH_take (i := 20) (v := (.pointer (some ⟨g2, k * 2 + 1, none⟩))) rfl (by kernel_rfl) (by kernel_rfl) (by kernel_rfl) (fun _ _ _ h => h) (Or.inl ⟨by kernel_rfl, ?_⟩) (by assumption) ?_
            · intro w' hSw
              (try dsimp only at hSw)
              go_simp
            (try simp only [Act.put, List.setIfInBounds_toArray, List.set_cons_zero, List.set_cons_succ])
            refine wpAnyH_take (i := 21) (v := (.slice q2 Z.length u2)) rfl (by kernel_rfl) (by kernel_rfl) (by kernel_rfl) (fun _ _ _ h => h) (Or.inl ⟨by kernel_rfl, ?_⟩) (by assumption) ?_
            · intro w' hSw
              (try dsimp only at hSw)
              (obtain ⟨hS1, hS2, hS3, hS4⟩ := hSw; go_simp)
            (try simp only [Act.put, List.setIfInBounds_toArray, List.set_cons_zero, List.set_cons_succ])
            refine wpAnyH_ready (rs := [22]) (by kernel_rfl) (by simp) ?_
            refine AllReadyH.cons rfl (fun K hK => ?_) AllReadyH.nil
            go_simp
            refine Calls.mono (SP.out _ (Below.refl _ _).drew) ?_
            rintro e w2 ⟨rfl, hb2⟩
            have B2 := (Below.refl wr.heap.size wr).drew.trans hb2
            refine hK.out _ _ (HK.out _ B2) (fun hHeld => ?_)
            clear hK
            (try simp only [Act.put, List.setIfInBounds_toArray, List.set_cons_zero, List.set_cons_succ])
            refine wpAnyH_ready (rs := [23]) (by kernel_rfl) (by simp) ?_
            refine AllReadyH.cons rfl (fun K hK => ?_) AllReadyH.nil
            go_simp
            refine hK.out _ _ (HK.out _ B2) (fun hHeld => ?_)
            clear hK
            (try simp only [Act.put, List.setIfInBounds_toArray, List.set_cons_zero, List.set_cons_succ])
            refine wpAnyH_ready (rs := [24]) (by kernel_rfl) (by simp) ?_
            refine AllReadyH.cons rfl (fun K hK => ?_) AllReadyH.nil
            go_simp
            refine hK.out _ _ (HK.out _ B2) (fun hHeld => ?_)
            clear hK
            (try simp only [Act.put, List.setIfInBounds_toArray, List.set_cons_zero, List.set_cons_succ])
            refine wpAnyH_done (by kernel_rfl) ?_ _
            go_wp2
            go_ret
            exact ⟨by rw [F.out]; rfl, HNX.out.trans (B2.mono HNX.out.size)⟩
        · have F := hide (F1.out e1)
          have hx1 : (X.toList == X2.toList) = false := by rw [eq_beq]; exact decide_eq_false e1
          have hx2 : (X.toList != X2.toList) = true := by rw [bne, hx1]; rfl
          clear e1 AL F1 F2 SP
          go_wp2_with fail
          refine wp_region_held_drew (S := fun w' => w'.cell? ⟨g1, k * 2, none⟩ = some (.string X) ∧ w'.cell? ⟨g1, k * 2 + 1, none⟩ = some (.slice q1 Y.length u1) ∧ w'.cell? ⟨g2, k * 2, none⟩ = some (.string X2) ∧ w'.cell? ⟨g2, k * 2 + 1, none⟩ = some (.slice q2 Z.length u2)) (by kernel_rfl) (HK.out _ (Below.refl _ _).drew) (fun hHeld => ?_)
          refine wpAnyH_take (i := 0) (v := (.slice (some ⟨g1, 0, none⟩) GN c1)) rfl (by kernel_rfl) (by kernel_rfl) (by kernel_rfl) (fun _ _ _ h => h) (Or.inl ⟨by rfl, ?_⟩) (by assumption) ?_
          · intro w' hSw
            (try dsimp only at hSw)
            go_simp <;> first | exact i64_in (by omega) (by omega) | exact u32_in (by omega) (by omega) | exact u32_add _ _ | (rw [Int.tmod_eq_emod_of_nonneg (by omega)]; omega) | (rw [Int.tdiv_eq_ediv_of_nonneg (by omega)]; omega) | omega
          (try simp only [Act.put, List.setIfInBounds_toArray, List.set_cons_zero, List.set_cons_succ])
          refine wpAnyH_take (i := 1) (v := (.int .i64 (k : Int))) rfl (by kernel_rfl) (by kernel_rfl) (by kernel_rfl) (fun _ _ _ h => h) (Or.inl ⟨by rfl, ?_⟩) (by assumption) ?_
          · intro w' hSw
            (try dsimp only at hSw)
            go_simp <;> first | exact i64_in (by omega) (by omega) | exact u32_in (by omega) (by omega) | exact u32_add _ _ | (rw [Int.tmod_eq_emod_of_nonneg (by omega)]; omega) | (rw [Int.tdiv_eq_ediv_of_nonneg (by omega)]; omega) | omega
          (try simp only [Act.put, List.setIfInBounds_toArray, List.set_cons_zero, List.set_cons_succ])
          refine wpAnyH_take (i := 2) (v := (.pointer (some ⟨g1, k * 2, none⟩))) rfl (by kernel_rfl) (by kernel_rfl) (by kernel_rfl) (fun _ _ _ h => h) (Or.inl ⟨by rfl, ?_⟩) (by assumption) ?_
          · intro w' hSw
            (try dsimp only at hSw)
            go_simp <;> first | exact i64_in (by omega) (by omega) | exact u32_in (by omega) (by omega) | exact u32_add _ _ | (rw [Int.tmod_eq_emod_of_nonneg (by omega)]; omega) | (rw [Int.tdiv_eq_ediv_of_nonneg (by omega)]; omega) | omega
          (try simp only [Act.put, List.setIfInBounds_toArray, List.set_cons_zero, List.set_cons_succ])
          refine wpAnyH_take (i := 3) (v := (.pointer (some ⟨g1, k * 2, none⟩))) rfl (by kernel_rfl) (by kernel_rfl) (by kernel_rfl) (fun _ _ _ h => h) (Or.inl ⟨by rfl, ?_⟩) (by assumption) ?_
          · intro w' hSw
            (try dsimp only at hSw)
            go_simp <;> first | exact i64_in (by omega) (by omega) | exact u32_in (by omega) (by omega) | exact u32_add _ _ | (rw [Int.tmod_eq_emod_of_nonneg (by omega)]; omega) | (rw [Int.tdiv_eq_ediv_of_nonneg (by omega)]; omega) | omega
          (try simp only [Act.put, List.setIfInBounds_toArray, List.set_cons_zero, List.set_cons_succ])
          refine wpAnyH_take (i := 4) (v := (.string X)) rfl (by kernel_rfl) (by kernel_rfl) (by kernel_rfl) (fun _ _ _ h => h) (Or.inl ⟨by rfl, ?_⟩) (by assumption) ?_
          · intro w' hSw
            (try dsimp only at hSw)
            (obtain ⟨hS1, hS2, hS3, hS4⟩ := hSw; go_simp)
          (try simp only [Act.put, List.setIfInBounds_toArray, List.set_cons_zero, List.set_cons_succ])
          refine wpAnyH_take (i := 5) (v := (.slice (some ⟨g2, 0, none⟩) GN c2)) rfl (by kernel_rfl) (by kernel_rfl) (by kernel_rfl) (fun _ _ _ h => h) (Or.inl ⟨by rfl, ?_⟩) (by assumption) ?_
          · intro w' hSw
            (try dsimp only at hSw)
            go_simp <;> first | exact i64_in (by omega) (by omega) | exact u32_in (by omega) (by omega) | exact u32_add _ _ | (rw [Int.tmod_eq_emod_of_nonneg (by omega)]; omega) | (rw [Int.tdiv_eq_ediv_of_nonneg (by omega)]; omega) | omega
          (try simp only [Act.put, List.setIfInBounds_toArray, List.set_cons_zero, List.set_cons_succ])
          refine wpAnyH_take (i := 6) (v := (.int .i64 (k : Int))) rfl (by kernel_rfl) (by kernel_rfl) (by kernel_rfl) (fun _ _ _ h => h) (Or.inl ⟨by rfl, ?_⟩) (by assumption) ?_
          · intro w' hSw
            (try dsimp only at hSw)
            go_simp <;> first | exact i64_in (by omega) (by omega) | exact u32_in (by omega) (by omega) | exact u32_add _ _ | (rw [Int.tmod_eq_emod_of_nonneg (by omega)]; omega) | (rw [Int.tdiv_eq_ediv_of_nonneg (by omega)]; omega) | omega
          (try simp only [Act.put, List.setIfInBounds_toArray, List.set_cons_zero, List.set_cons_succ])
          refine wpAnyH_take (i := 7) (v := (.pointer (some ⟨g2, k * 2, none⟩))) rfl (by kernel_rfl) (by kernel_rfl) (by kernel_rfl) (fun _ _ _ h => h) (Or.inl ⟨by rfl, ?_⟩) (by assumption) ?_
          · intro w' hSw
            (try dsimp only at hSw)
            go_simp <;> first | exact i64_in (by omega) (by omega) | exact u32_in (by omega) (by omega) | exact u32_add _ _ | (rw [Int.tmod_eq_emod_of_nonneg (by omega)]; omega) | (rw [Int.tdiv_eq_ediv_of_nonneg (by omega)]; omega) | omega
          (try simp only [Act.put, List.setIfInBounds_toArray, List.set_cons_zero, List.set_cons_succ])
          refine wpAnyH_take (i := 8) (v := (.pointer (some ⟨g2, k * 2, none⟩))) rfl (by kernel_rfl) (by kernel_rfl) (by kernel_rfl) (fun _ _ _ h => h) (Or.inl ⟨by rfl, ?_⟩) (by assumption) ?_
          · intro w' hSw
            (try dsimp only at hSw)
            go_simp <;> first | exact i64_in (by omega) (by omega) | exact u32_in (by omega) (by omega) | exact u32_add _ _ | (rw [Int.tmod_eq_emod_of_nonneg (by omega)]; omega) | (rw [Int.tdiv_eq_ediv_of_nonneg (by omega)]; omega) | omega
          (try simp only [Act.put, List.setIfInBounds_toArray, List.set_cons_zero, List.set_cons_succ])
          refine wpAnyH_take (i := 9) (v := (.string X2)) rfl (by kernel_rfl) (by kernel_rfl) (by kernel_rfl) (fun _ _ _ h => h) (Or.inl ⟨by rfl, ?_⟩) (by assumption) ?_
          · intro w' hSw
            (try dsimp only at hSw)
            (obtain ⟨hS1, hS2, hS3, hS4⟩ := hSw; go_simp)
          (try simp only [Act.put, List.setIfInBounds_toArray, List.set_cons_zero, List.set_cons_succ])
          refine wpAnyH_take (i := 10) (v := (.bool true)) rfl (by kernel_rfl) (by kernel_rfl) (by kernel_rfl) (fun _ _ _ h => h) (Or.inl ⟨by rfl, ?_⟩) (by assumption) ?_
          · intro w' hSw
            (try dsimp only at hSw)
            go_simp <;> first | exact i64_in (by omega) (by omega) | exact u32_in (by omega) (by omega) | exact u32_add _ _ | (rw [Int.tmod_eq_emod_of_nonneg (by omega)]; omega) | (rw [Int.tdiv_eq_ediv_of_nonneg (by omega)]; omega) | omega
          (try simp only [Act.put, List.setIfInBounds_toArray, List.set_cons_zero, List.set_cons_succ])
          refine wpAnyH_take (i := 11) (v := (.bool true)) rfl (by kernel_rfl) (by kernel_rfl) (by kernel_rfl) (fun _ _ _ h => h) (Or.inl ⟨by rfl, ?_⟩) (by assumption) ?_
          · intro w' hSw
            (try dsimp only at hSw)
            go_simp <;> first | exact i64_in (by omega) (by omega) | exact u32_in (by omega) (by omega) | exact u32_add _ _ | (rw [Int.tmod_eq_emod_of_nonneg (by omega)]; omega) | (rw [Int.tdiv_eq_ediv_of_nonneg (by omega)]; omega) | omega
          (try simp only [Act.put, List.setIfInBounds_toArray, List.set_cons_zero, List.set_cons_succ])
          refine wpAnyH_take (i := 12) (v := undef) rfl (by kernel_rfl) (by kernel_rfl) (by kernel_rfl) (fun _ _ _ h => h) (Or.inr ⟨by kernel_rfl, rfl⟩) (by assumption) ?_
          (try simp only [Act.put, List.setIfInBounds_toArray, List.set_cons_zero, List.set_cons_succ])
          refine wpAnyH_take (i := 13) (v := undef) rfl (by kernel_rfl) (by kernel_rfl) (by kernel_rfl) (fun _ _ _ h => h) (Or.inr ⟨by kernel_rfl, rfl⟩) (by assumption) ?_
          (try simp only [Act.put, List.setIfInBounds_toArray, List.set_cons_zero, List.set_cons_succ])
          refine wpAnyH_take (i := 14) (v := undef) rfl (by kernel_rfl) (by kernel_rfl) (by kernel_rfl) (fun _ _ _ h => h) (Or.inr ⟨by kernel_rfl, rfl⟩) (by assumption) ?_
          (try simp only [Act.put, List.setIfInBounds_toArray, List.set_cons_zero, List.set_cons_succ])
          refine wpAnyH_take (i := 15) (v := undef) rfl (by kernel_rfl) (by kernel_rfl) (by kernel_rfl) (fun _ _ _ h => h) (Or.inr ⟨by kernel_rfl, rfl⟩) (by assumption) ?_
          (try simp only [Act.put, List.setIfInBounds_toArray, List.set_cons_zero, List.set_cons_succ])
          refine wpAnyH_take (i := 16) (v := undef) rfl (by kernel_rfl) (by kernel_rfl) (by kernel_rfl) (fun _ _ _ h => h) (Or.inr ⟨by kernel_rfl, rfl⟩) (by assumption) ?_
          (try simp only [Act.put, List.setIfInBounds_toArray, List.set_cons_zero, List.set_cons_succ])
          refine wpAnyH_take (i := 17) (v := undef) rfl (by kernel_rfl) (by kernel_rfl) (by kernel_rfl) (fun _ _ _ h => h) (Or.inr ⟨by kernel_rfl, rfl⟩) (by assumption) ?_
          (try simp only [Act.put, List.setIfInBounds_toArray, List.set_cons_zero, List.set_cons_succ])
          refine wpAnyH_take (i := 18) (v := undef) rfl (by kernel_rfl) (by kernel_rfl) (by kernel_rfl) (fun _ _ _ h => h) (Or.inr ⟨by kernel_rfl, rfl⟩) (by assumption) ?_
          (try simp only [Act.put, List.setIfInBounds_toArray, List.set_cons_zero, List.set_cons_succ])
          refine wpAnyH_take (i := 19) (v := undef) rfl (by kernel_rfl) (by kernel_rfl) (by kernel_rfl) (fun _ _ _ h => h) (Or.inr ⟨by kernel_rfl, rfl⟩) (by assumption) ?_
          (try simp only [Act.put, List.setIfInBounds_toArray, List.set_cons_zero, List.set_cons_succ])
          refine wpAnyH_take (i := 20) (v := undef) rfl (by kernel_rfl) (by kernel_rfl) (by kernel_rfl) (fun _ _ _ h => h) (Or.inr ⟨by kernel_rfl, rfl⟩) (by assumption) ?_
          (try simp only [Act.put, List.setIfInBounds_toArray, List.set_cons_zero, List.set_cons_succ])
          refine wpAnyH_take (i := 21) (v := undef) rfl (by kernel_rfl) (by kernel_rfl) (by kernel_rfl) (fun _ _ _ h => h) (Or.inr ⟨by kernel_rfl, rfl⟩) (by assumption) ?_
          (try simp only [Act.put, List.setIfInBounds_toArray, List.set_cons_zero, List.set_cons_succ])
          refine wpAnyH_take (i := 22) (v := undef) rfl (by kernel_rfl) (by kernel_rfl) (by kernel_rfl) (fun _ _ _ h => h) (Or.inr ⟨by kernel_rfl, rfl⟩) (by assumption) ?_
          (try simp only [Act.put, List.setIfInBounds_toArray, List.set_cons_zero, List.set_cons_succ])
          refine wpAnyH_take (i := 23) (v := undef) rfl (by kernel_rfl) (by kernel_rfl) (by kernel_rfl) (fun _ _ _ h => h) (Or.inr ⟨by kernel_rfl, rfl⟩) (by assumption) ?_
          (try simp only [Act.put, List.setIfInBounds_toArray, List.set_cons_zero, List.set_cons_succ])
          refine wpAnyH_ready (rs := [24]) (by kernel_rfl) (by simp) ?_
          refine AllReadyH.cons rfl (fun K hK => ?_) AllReadyH.nil
          go_simp
          refine hK.out _ _ (HK.out _ (Below.refl _ _).drew) (fun hHeld => ?_)
          clear hK
          (try simp only [Act.put, List.setIfInBounds_toArray, List.set_cons_zero, List.set_cons_succ])
          refine wpAnyH_done (by kernel_rfl) ?_ _
          go_wp2
          go_ret
          exact ⟨by rw [F.out]; rfl, by first | exact HNX.out.drew | exact HNX.out⟩
      · have HNX := hide hnx
        have F := hide (EQ.out (fun t x y _ => HALL.out t x y (by have := HGN.out; omega)))
        clear hnx
        go_wp2
        go_ret
        exact ⟨by rw [F.out]; rfl, HNX.out⟩
  · have F : Hid (decide (gs = hs) = false) := decide_eq_false (fun e => hl (by rw [e]))
    have hln : ¬ (gs.length : Int) = (hs.length : Int) := by omega
    go_enter Try.func26, Try.ntmps26
    go_wp2_with fail
    go_ret
    exact ⟨by rw [F.out]; rfl, Below.refl _ _⟩
end Go.Proofs.Ythihmgdefbahpaa
