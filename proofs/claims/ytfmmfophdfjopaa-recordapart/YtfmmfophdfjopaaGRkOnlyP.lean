import Derived.Test.YtfmmfophdfjopaaGRkGPure
import Derived.Test.YtfmmfophdfjopaaRkWeight
namespace Go.Proofs.Ytfmmfophdfjopaa
open Go.RowKit
theorem dc_zero {m : Int} {x d : ByteArray} (h : dcE m x d = 0) : riE m x = 0 ∧ ∃ l, dcOk m x d = some l ∧ dcG m x d = l := by
  by_cases hr : riE m x = 0
  · refine ⟨hr, ?_⟩
    cases ho : dcOk m x d with
    | none => rw [(dc_no hr ho).1] at h; cases h
    | some l => exact ⟨l, rfl, (dc_yes hr ho).2⟩
  · rw [(dc_index hr).1] at h; exact absurd h hr
theorem dc_none {m : Int} {x d : ByteArray} (h : dcE m x d ≠ 0) : dcG m x d = [] := by
  by_cases hr : riE m x = 0
  · cases ho : dcOk m x d with
    | none => exact (dc_no hr ho).2
    | some l => exact absurd (dc_yes hr ho).1 h
  · exact (dc_index hr).2
theorem ok_inv {m : Int} {x d : ByteArray} {l : List GR} (h : dcOk m x d = some l) : decAt m.toNat x d (x.size / (m.toNat + 4)) = some (l, d.size) ∧ d.size ≤ 65536 := by
  have hb : d.size ≤ 65536 := by
    rcases Nat.lt_or_ge 65536 d.size with hc | hc
    · rw [ok_big hc] at h; cases h
    · exact hc
  refine ⟨?_, hb⟩
  cases hd : decAt m.toNat x d (x.size / (m.toNat + 4)) with
  | none => rw [ok_none hd] at h; cases h
  | some r =>
    obtain ⟨l2, q⟩ := r
    by_cases hq : q = d.size
    · subst hq
      rw [ok_yes hd hb] at h
      injection h with h
      rw [h]
    · rw [ok_end hd hq] at h; cases h
/-- what Decode takes is what Encode makes of what it found -/
theorem dec_enc {kn : Nat} {x d : ByteArray} (h : dcE (kn : Int) x d = 0) : egE (kn : Int) (dcG (kn : Int) x d) = 0 ∧ egI (kn : Int) (dcG (kn : Int) x d) = x ∧ egD (kn : Int) (dcG (kn : Int) x d) = d := by
  obtain ⟨hr, l, ho, hg⟩ := dc_zero h
  rw [hg]
  obtain ⟨hk, hx, hup, _⟩ := ri_inv hr
  obtain ⟨hdec, hb⟩ := ok_inv ho
  rw [Int.toNat_natCast] at hx hup hdec
  have hch := dec_ch _ _ hdec
  obtain ⟨_, hl, hD, hin⟩ := ch_facts _ _ _ (Nat.le_refl _) hch
  have hxs : x.size / (kn + 4) * (kn + 4) = x.size := Nat.div_mul_cancel (Nat.dvd_of_mod_eq_zero hx)
  have hN := (ch_dec hb _ _ _ (Nat.le_refl _) hch).2.2 hdec
  rw [hxs, List.take_of_length_le (by rw [size_data]; exact Nat.le_refl _)] at hN
  rw [List.take_of_length_le (by rw [size_data]; exact Nat.le_refl _)] at hD
  have hDl : (encD l).length = d.size := by rw [hD, size_data]
  have hE : egE (kn : Int) l = 0 := by
    refine (eg_ok hk (fun j hj => ?_) (by omega)).1
    have hsz : l[j].1.size = kn := by rw [(hin j hj).1]; exact rdeH_size (by omega)
    rw [gBad_rec hj (by omega)]
    · exact (hin j hj).2
    · intro ⟨h0, h1⟩
      rw [gr_at (by omega : j - 1 < l.length), (hin j hj).1, (hin (j - 1) (by omega)).1] at h1
      have ha := allUp_at hup (i := j - 1) (by omega)
      rw [show j - 1 + 1 = j by omega] at ha
      simp only [Bool.or_eq_false_iff] at ha
      rcases h1 with h1 | h1
      · rw [h1] at ha; simp at ha
      · have h2 : Op.bytesLess (rdeH kn x j).toList (rdeH kn x (j - 1)).toList = true := h1
        rw [h2] at ha; simp at ha
  obtain ⟨eI, eD, _, _⟩ := eg_shape hE
  refine ⟨hE, ?_, ?_⟩
  · rw [eI, hl, hN]; exact strOf_toList _
  · rw [eD, hD]; exact strOf_toList _
theorem data_step {kn : Nat} {gs hs : List GR} (h1 : egE (kn : Int) gs = 0) (h2 : egE (kn : Int) hs = 0) (e : egD (kn : Int) gs = egD (kn : Int) hs) : ∀ j, j ≤ gs.length → j ≤ hs.length → (encD (gs.take j)).length = (encD (hs.take j)).length := by
  intro j
  induction j with
  | zero => intro _ _; simp [encD]
  | succ j ih =>
    intro a b
    have i := ih (by omega) (by omega)
    have x := (join_record h1 (show j < gs.length by omega)).1.2.2
    have y := (join_record h2 (show j < hs.length by omega)).1.2.2
    rw [← e, ← i, x] at y
    omega
theorem data_le {kn : Nat} {gs hs : List GR} (h1 : egE (kn : Int) gs = 0) (h2 : egE (kn : Int) hs = 0) (e : egD (kn : Int) gs = egD (kn : Int) hs) : hs.length ≤ gs.length := by
  rcases Nat.lt_or_ge gs.length hs.length with hc | hc
  · have s := data_step h1 h2 e gs.length (Nat.le_refl _) (by omega)
    rw [List.take_length] at s
    have t := encDn_take hs gs.length hc
    have u := encD_le hs (gs.length + 1)
    have z1 := (eg_shape h1).2.2.2
    have z2 := (eg_shape h2).2.2.2
    rw [e] at z1
    omega
  · exact hc
/-- the same data: the index is as long -/
theorem data_index {kn : Nat} {gs hs : List GR} (h1 : egE (kn : Int) gs = 0) (h2 : egE (kn : Int) hs = 0) (e : egD (kn : Int) gs = egD (kn : Int) hs) : (egI (kn : Int) gs).size = (egI (kn : Int) hs).size := by
  have := data_le h1 h2 e
  have := data_le h2 h1 e.symm
  rw [(eg_shape h1).2.2.1, (eg_shape h2).2.2.1, show gs.length = hs.length by omega]
/-- the same index: data that begin with the other's are as long -/
theorem index_data {kn : Nat} {gs hs : List GR} (h1 : egE (kn : Int) gs = 0) (h2 : egE (kn : Int) hs = 0) (e : egI (kn : Int) gs = egI (kn : Int) hs) (hp : (egD (kn : Int) gs).extract 0 (egD (kn : Int) hs).size = egD (kn : Int) hs) : (egD (kn : Int) hs).size = (egD (kn : Int) gs).size := by
  obtain ⟨hk, hin, _⟩ := eg_inv h1
  obtain ⟨_, hin2, _⟩ := eg_inv h2
  obtain ⟨_, d1, s1, z1⟩ := eg_shape h1
  obtain ⟨_, d2, s2, z2⟩ := eg_shape h2
  have hn : gs.length = hs.length := by
    rw [e, s2] at s1
    exact (Nat.eq_of_mul_eq_mul_right (by omega) s1).symm
  rcases Nat.eq_zero_or_pos gs.length with h0 | h0
  · have e1 := List.length_eq_zero_iff.1 h0
    have e2 := List.length_eq_zero_iff.1 (hn ▸ h0 : hs.length = 0)
    rw [e1, e2]
  · obtain ⟨j, hj⟩ : ∃ j, gs.length = j + 1 := ⟨gs.length - 1, by omega⟩
    have a1 : j < gs.length := by omega
    have a2 : j < hs.length := by omega
    have q1 := join_entry h1 a1
    have q2 := join_entry h2 a2
    rw [← e, q1] at q2
    have ho : (encD (gs.take j)).length = (encD (hs.take j)).length := by
      simp only [Ending.returned.injEq, Value.tuple.injEq, Array.mk.injEq, List.cons.injEq, Value.int.injEq, true_and, and_true] at q2
      omega
    have t1 := encDn_take gs j a1
    have t2 := encDn_take hs j a2
    rw [← hj, List.take_length] at t1
    rw [← hj, hn, List.take_length] at t2
    obtain ⟨fl, fp, fz, fs⟩ := fine (hin j a1).2.1
    obtain ⟨fl2, fp2, fz2, fs2⟩ := fine (hin2 j a2).2.1
    have c1 : (egD (kn : Int) gs).data.toList.drop (encD (gs.take j)).length = recL gs[j].2 ++ encD (gs.drop (j + 1)) := by
      rw [d1]
      show (encD gs).drop _ = _
      rw [encD_split a1, List.drop_left' rfl]
    have hle : (egD (kn : Int) hs).size ≤ (egD (kn : Int) gs).size := by
      have := congrArg ByteArray.size hp
      rw [ByteArray.size_extract] at this
      omega
    obtain ⟨R, c2⟩ : ∃ R, (egD (kn : Int) gs).data.toList = encD hs ++ R := by
      have l1 : ((egD (kn : Int) gs).extract 0 (egD (kn : Int) hs).size).data.toList = (egD (kn : Int) hs).data.toList := by rw [hp]
      rw [slice_str, List.drop_zero, Nat.sub_zero, z2] at l1
      have l2 : (egD (kn : Int) hs).data.toList = encD hs := by rw [d2]; rfl
      rw [l2] at l1
      exact ⟨_, by conv => lhs; rw [← List.take_append_drop (encD hs).length (egD (kn : Int) gs).data.toList, l1]⟩
    have c3 : (egD (kn : Int) gs).data.toList.drop (encD (gs.take j)).length = recL hs[j].2 ++ (encD (hs.drop (j + 1)) ++ R) := by
      rw [ho, c2, encD_split a2, List.append_assoc, List.drop_left' rfl, List.append_assoc]
    have hq : (encD (gs.take j)).length ≤ (egD (kn : Int) gs).size := by rw [z1]; omega
    have p1 := spell_there c1 hq (by omega) (fun i hi => ⟨by have := (fs i hi).1; omega, by have := (fs i hi).2; omega⟩)
    have p2 := spell_there c3 hq (by omega) (fun i hi => ⟨by have := (fs2 i hi).1; omega, by have := (fs2 i hi).2; omega⟩)
    rw [p1] at p2
    simp only [Option.some.injEq, Prod.mk.injEq] at p2
    have p3 := p2.2
    rw [recL_len, recL_len] at p3
    rw [z1, z2]
    omega
end Go.Proofs.Ytfmmfophdfjopaa
namespace Go.Proofs.Ytfmmfophdfjopaa
open Go.RowKit
theorem list_ne {α : Type} {a b : List α} {k : Nat} (h1 : k < a.length) (h2 : k < b.length) (h : a[k] ≠ b[k]) : a ≠ b := by
  intro e; subst e; exact h rfl
theorem list_eq {α : Type} {a b : List α} (hl : a.length = b.length) (h : ∀ t (h1 : t < a.length) (h2 : t < b.length), a[t] = b[t]) : a = b := List.ext_getElem hl h
set_option maxHeartbeats 2000000 in
set_option maxRecDepth 100000 in
set_option linter.unusedSimpArgs false in
/-- samePairs, of any two lists -/
theorem samePairs_dec (a1 a2 : Option Addr) (b1 o1 c1 b2 o2 c2 : Nat) (ps qs : List KV) (w : World) (h1 : 0 < ps.length → a1 = some ⟨b1, o1, none⟩) (h2 : 0 < qs.length → a2 = some ⟨b2, o2, none⟩) (hb1 : 0 < ps.length → b1 < w.heap.size) (hb2 : 0 < qs.length → b2 < w.heap.size) (l1 : LiesP b1 o1 w ps) (l2 : LiesP b2 o2 w qs) (hlen : ps.length ≤ 1099511627776000) (_ : qs.length ≤ 1099511627776000) :
    Calls Try.prog 13 #[.slice a1 ps.length c1, .slice a2 qs.length c2] w fun e w' => e = .returned (.bool (decide (ps = qs))) ∧ Below w.heap.size w w' := by
  have L1 := hide l1
  have L2 := hide l2
  clear l1 l2
  by_cases hl : ps.length = qs.length
  · have HL := hide hl
    have NE : Hid (∀ k (x : k < ps.length) (y : k < qs.length), ps[k] ≠ qs[k] → decide (ps = qs) = false) := fun k x y h => decide_eq_false (list_ne x y h)
    have EQ : Hid ((∀ t (x : t < ps.length) (y : t < qs.length), t < ps.length → ps[t] = qs[t]) → decide (ps = qs) = true) := fun h => decide_eq_true (list_eq HL.out (fun t x y => h t x y x))
    generalize decide (ps = qs) = DD at *
    rw [← hl]
    rw [← hl] at h2 hb2
    clear hl
    go_enter Try.func13, Try.ntmps13
    go_wp2_with fail
    go_loopw [5] (fun i wr => ∃ k : Nat, k ≤ ps.length ∧ i = .int .i64 k ∧ (∀ t (x : t < ps.length) (y : t < qs.length), t < k → ps[t] = qs[t]) ∧ Below w.heap.size w wr) (fun i _ => ps.length - (intOf i).toNat)
    case atStart => exact ⟨0, Nat.zero_le _, rfl, fun t _ _ ht => by omega, Below.refl _ _⟩
    case round =>
      obtain ⟨k, hk, rfl, hall, hnx⟩ := hrel
      have HALL := hide hall
      clear hall
      by_cases hlt : k < ps.length
      · have hlt2 : k < qs.length := by rw [← HL.out]; exact hlt
        obtain rfl := h1 (by omega)
        obtain rfl := h2 (by omega)
        obtain ⟨d1, d2⟩ := L1.out.below (hb1 (by omega)) hnx k hlt
        obtain ⟨d3, d4⟩ := L2.out.below (hb2 (by omega)) hnx k hlt2
        have hk1 : (k : Int) < (ps.length : Int) := by omega
        have HNX := hide hnx
        clear hnx
        by_cases e1 : ps[k].1 = qs[k].1
        · by_cases e2 : ps[k].2 = qs[k].2
          · have AL : Hid (∀ t (x : t < ps.length) (y : t < qs.length), t < k + 1 → ps[t] = qs[t]) := by
              intro t x y ht
              rcases Nat.lt_or_ge t k with h | h
              · exact HALL.out t x y h
              · obtain rfl : t = k := by omega
                exact Prod.ext e1 e2
            rw [← e1] at d3
            rw [← e2] at d4
            clear e1 e2
            generalize ps[k].1 = X at *
            generalize ps[k].2 = Y at *
            go_wp2_with fail
            go_quiet (fail)
            go_wp2
            go_roundw
            case rel => exact ⟨k + 1, by omega, by go_num, AL.out, below_drewN HNX.out _⟩
            case measure => simp [intOf]; omega
          · have F := hide (NE.out k hlt hlt2 (fun e => e2 (by rw [e])))
            have hb2 : (ps[k].2.toList == qs[k].2.toList) = false := by rw [eq_beq]; exact decide_eq_false e2
            have hb3 : (ps[k].2.toList != qs[k].2.toList) = true := by rw [bne, hb2]; rfl
            rw [← e1] at d3
            clear e1 e2
            generalize ps[k].1 = X at *
            generalize ps[k].2 = Y at *
            generalize qs[k].2 = Y2 at *
            go_wp2_with fail
            go_quiet (fail)
            go_wp2
            go_ret
            exact ⟨by rw [F.out]; rfl, below_drewN HNX.out _⟩
        · have F := hide (NE.out k hlt hlt2 (fun e => e1 (by rw [e])))
          have hb2 : (ps[k].1.toList == qs[k].1.toList) = false := by rw [eq_beq]; exact decide_eq_false e1
          have hb3 : (ps[k].1.toList != qs[k].1.toList) = true := by rw [bne, hb2]; rfl
          clear e1
          generalize ps[k].1 = X at *
          generalize ps[k].2 = Y at *
          generalize qs[k].1 = X2 at *
          generalize qs[k].2 = Y2 at *
          go_wp2_with fail
          go_quiet (fail)
          go_wp2
          go_ret
          exact ⟨by rw [F.out]; rfl, below_drewN HNX.out _⟩
      · have HNX := hide hnx
        have F := hide (EQ.out (fun t x y _ => HALL.out t x y (by omega)))
        clear hnx
        go_wp2
        go_ret
        exact ⟨by rw [F.out]; rfl, HNX.out⟩
  · have F : Hid (decide (ps = qs) = false) := decide_eq_false (fun e => hl (by rw [e]))
    have hli : ((ps.length : Int) == (qs.length : Int)) = false := by simp; omega
    have hln : ¬ (ps.length : Int) = (qs.length : Int) := by omega
    go_enter Try.func13, Try.ntmps13
    go_wp2_with fail
    go_ret
    exact ⟨by rw [F.out]; rfl, Below.refl _ _⟩
end Go.Proofs.Ytfmmfophdfjopaa
