import Derived.Test.YtgdibjnendjhnaaGreatDoorW22
namespace Go.Proofs.YtgdibjnendjhnaaGreatDoor
open Go.RowKit
def addx (x : ByteArray) : ByteArray := x ++ ⟨#[120]⟩
def ysTo (xs : List ByteArray) (k : Nat) : List ByteArray := (xs.take k).map addx ++ xs.drop k
theorem ysTo_zero (xs : List ByteArray) : ysTo xs 0 = xs := by simp [ysTo]
theorem ysTo_all (xs : List ByteArray) (k : Nat) (h : xs.length ≤ k) : ysTo xs k = xs.map addx := by
  simp [ysTo, List.take_of_length_le h, List.drop_eq_nil_of_le h]
theorem ysTo_len (xs : List ByteArray) (k : Nat) : (ysTo xs k).length = xs.length := by
  simp [ysTo]; omega
theorem ysTo_get (xs : List ByteArray) (k : Nat) (h : k < xs.length) : (ysTo xs k)[k]? = some xs[k] := by
  unfold ysTo
  rw [List.getElem?_append_right (by simp; omega)]
  simp only [List.length_map, List.length_take]
  rw [Nat.min_eq_left (by omega), Nat.sub_self, List.getElem?_drop]
  simp [h]
theorem ysTo_set (xs : List ByteArray) (k : Nat) (h : k < xs.length) : (ysTo xs k).set k (addx xs[k]) = ysTo xs (k + 1) := by
  unfold ysTo
  have h1 : ((xs.take k).map addx).length = k := by simp; omega
  rw [List.set_append_right _ _ (by omega), h1, Nat.sub_self, List.drop_eq_getElem_cons h, List.set_cons_zero, List.take_succ_eq_append_getElem h, List.map_append]
  simp
theorem ownsRow_below {w w' : World} {base size n : Nat} {e : TypeId} {v : Value} {xs : List Value} (h : w.ownsRow base e size v n xs) (hb : Below w.heap.size w w') : w'.ownsRow base e size v n xs :=
  ⟨h.1, h.2.elim Or.inl (fun ⟨g, cap, cur, hv, hg, hblk, r⟩ => Or.inr ⟨g, cap, cur, hv, hg, by
    have : g < w.heap.size := by
      rcases Nat.lt_or_ge g w.heap.size with h' | h'
      · exact h'
      · rw [Array.getElem?_eq_none h'] at hblk; simp at hblk
    rw [hb.block g this]; exact hblk, r⟩)⟩
theorem texts_set {xs : List ByteArray} {k : Nat} (h : k < xs.length) : ((ysTo xs k).map Value.string).set k (.string (addx xs[k])) = (ysTo xs (k + 1)).map Value.string := by
  rw [← ysTo_set xs k h, List.map_set]
set_option maxHeartbeats 8000000 in
set_option maxRecDepth 100000 in
theorem paths_some (bk o c : Nat) (xs : List ByteArray) (w : World) (hpos : 0 < xs.length) (hcells : ∀ (j : Nat) x, xs[j]? = some x → w.cell? ⟨bk, o + j, none⟩ = some (.string x)) (hbk : bk < w.heap.size) (hN : xs.length ≤ 2097152)
    (hsz : ∀ (j : Nat) x, xs[j]? = some x → x.size ≤ 2097152) (hl1 : (Lib.join (bl xs) [47]).length ≤ 1099511627776) (hl2 : (Lib.join (bl (xs.map addx)) [47]).length ≤ 1099511627776)
    (hg : ∃ k : Int, w.cell? ⟨0, 0, none⟩ = some (.int .i64 k)) (hw0 : 0 < w.heap.size) :
    Calls Tryz.prog 3 #[.slice (some ⟨bk, o, none⟩) xs.length c] w fun e w' => e = .returned (.bool true) ∧ Below w.heap.size w w' := by
  obtain ⟨i0, hi, hz0, hz1, hz2⟩ := info_parts info9
  have HC := hide hcells
  have HZ := hide hsz
  have HL1 := hide hl1
  have HL2 := hide hl2
  have HG := hide hg
  clear hcells hsz hl1 hl2 hg
  go_enter Tryz.func3, Tryz.ntmps3
  go_wp2
  go_loopw [3, 4] (fun v I wr => ∃ (k : Nat) (ao : Option Addr) (cv : Nat), k ≤ xs.length ∧ I = .int .i64 k ∧ v = .slice ao k cv ∧ wr.ownsRow w.heap.size 9 1 v k ((xs.take k).map Value.string) ∧ Below w.heap.size w wr)
    (fun _ I _ => xs.length - (intOf I).toNat)
  case atStart => exact ⟨0, none, 0, Nat.zero_le _, rfl, rfl, World.ownsRow_nil _ _ _ _, Below.refl _ _⟩
  case round =>
    obtain ⟨k, ao, cv, hk, rfl, rfl, hown, hnx⟩ := hrel
    have hsize := hnx.size
    by_cases hlt : k < xs.length
    · have hck : wr.cell? ⟨bk, o + k, none⟩ = some (.string xs[k]) := (hnx.cell (p := ⟨bk, o + k, none⟩) hbk).trans (HC.out k _ (List.getElem?_eq_getElem hlt))
      generalize hX : xs[k] = X at hck
      have HX := hide hX
      have hbr : bk < wr.heap.size := by omega
      clear hX
      go_wp2_with (at_builtin; refine wpList_append_own _ rfl _ _ 22 rfl w.heap.size 9 i0 (.string ByteArray.empty) 1 16 Tryz.underlying22 hi hz0 hz1 hz2 rfl (by decide) _ _ _ rfl (hown.alloc _) ⟨wr.heap.size, 0, none⟩ 1 1 [.string X] rfl rfl (cell_one_new _ _ _) (fun x hx => by simp at hx; subst hx; rfl) (by unfold maxLen; omega) (by omega) (by simp; omega) ?_; intro v' w3 hown' hgrow3 hnil3)
      go_roundw
      case rel =>
        obtain ⟨g3, cap3, hv3⟩ := Joins.ownsRow_form hown' (by omega)
        refine ⟨k + 1, some ⟨g3, 0, none⟩, cap3, by omega, by go_num, by rw [hv3], ?_, (hnx.alloc hnx.size _).grown hgrow3 (by simp; omega) (fun j hj => (hown.lt j hj).1)⟩
        rw [List.take_succ_eq_append_getElem hlt, HX.out, List.map_append]
        exact hown'
      case measure => simp [intOf]; omega
    · have hkn : k = xs.length := by omega
      subst hkn
      rw [List.take_length] at hown
      obtain ⟨g, cap, hv⟩ := Joins.ownsRow_form hown hpos
      cases hv
      have hcells2 : ∀ (j : Nat) x, xs[j]? = some x → wr.cell? ⟨g, 0 + j, none⟩ = some (.string x) := fun j x hx => by
        have hj : j < xs.length := (List.getElem?_eq_some_iff.1 hx).1
        rw [Nat.zero_add, hown.cellAt j (by omega)]
        simp [hx]
      have hgl := (hown.lt g rfl)
      have hcapg : xs.length ≤ cv := by
        rcases hown.2 with ⟨h1, _⟩ | ⟨g', cap', cur, hv, _, _, hh, _⟩
        · cases h1
        · cases hv; exact hh
      have HP := hide (opath_any g 0 cv xs wr hcells2 hgl.2 (by omega) hcapg HL1.out)
      have HOWN := hide hown
      have HNX := hide hnx
      clear hcells2
      go_wp2_with fail
      refine Calls.mono HP.out ?_
      rintro e w1 ⟨rfl, hb1⟩
      have hnx1 : Below w.heap.size w w1 := hnx.trans (hb1.mono hnx.size)
      have hsz1 := hb1.size
      have HR : Hid (Calls Tryz.prog 5 #[.slice (some ⟨bk, o, none⟩) xs.length c] w1 fun e w' => e = .returned (.string ⟨(Lib.join (bl xs) [47]).toArray⟩) ∧ w1 = w') := (rpath_any bk o c xs w1 (fun j x hx => (hnx1.cell (p := ⟨bk, o + j, none⟩) hbk).trans (HC.out j x hx)) (by omega) HL1.out).mono fun _ _ h => ⟨h.1, h.2.symm⟩
      have hPl : (ByteArray.mk (Lib.join (bl xs) [47]).toArray).size ≤ 4611686018427387904 := by
        have h1 := HL1.out
        have h2 : (ByteArray.mk (Lib.join (bl xs) [47]).toArray).size = (Lib.join (bl xs) [47]).length := by simp [ByteArray.size]
        omega
      generalize (ByteArray.mk (Lib.join (bl xs) [47]).toArray) = PS at HR hPl
      have hPP : (PS.toList == PS.toList) = true := by simp
      have HNX1 := hide hnx1
      have hown1 : w1.ownsRow w.heap.size 9 1 (.slice (some ⟨g, 0, none⟩) xs.length cv) xs.length (xs.map Value.string) := ownsRow_below hown hb1
      have HOWN1 := hide hown1
      have hg1 : g < w1.heap.size := by omega
      have hbk1 : bk < w1.heap.size := by have := hnx1.size; omega
      clear hnx hown hnx1 hown1 hb1 HOWN HNX HP
      go_wp2_with (go_at_call 5; refine Calls.mono HR.out ?_; rintro e w' ⟨rfl, rfl⟩)
      clear HR
      go_loopw [6] (fun I wr => ∃ k : Nat, k ≤ xs.length ∧ I = .int .i64 k ∧ Below w1.heap.size w1 wr) (fun I _ => xs.length - (intOf I).toNat)
      case atStart => exact ⟨0, Nat.zero_le _, rfl, Below.refl _ _⟩
      case round =>
        obtain ⟨k, hk, rfl, hb2⟩ := hrel
        by_cases hlt : k < xs.length
        · have hc1 : wr.cell? ⟨g, k, none⟩ = some (.string xs[k]) := by
            rw [hb2.cell (p := ⟨g, k, none⟩) hg1, HOWN1.out.cellAt k (by omega)]
            simp [hlt]
          have hc2 : wr.cell? ⟨bk, o + k, none⟩ = some (.string xs[k]) := by
            rw [hb2.cell (p := ⟨bk, o + k, none⟩) hbk1, HNX1.out.cell (p := ⟨bk, o + k, none⟩) hbk]
            exact HC.out k _ (List.getElem?_eq_getElem hlt)
          generalize xs[k] = X at hc1 hc2
          have hXX : (X.toList == X.toList) = true := by simp
          have hlti : (k : Int) < (xs.length : Int) := by omega
          have h0i : (0 : Int) ≤ (k : Int) := by omega
          go_wp2_with fail
          go_quiet (fail)
          go_wp2
          go_roundw
          case rel => exact ⟨k + 1, by omega, by go_num, drewN_below hb2 _⟩
          case measure => simp [intOf]; omega
        · have hnx2 := HNX1.out.trans (hb2.mono HNX1.out.size)
          have hown2 := ownsRow_below HOWN1.out hb2
          have HNX2 := hide hnx2
          have HOWN2 := hide hown2
          have hg2 : g < wr.heap.size := by have := hb2.size; omega
          obtain ⟨w2, rfl⟩ : ∃ w2 : World, w2 = wr := ⟨_, rfl⟩
          clear hb2 hnx2 hown2 HNX1 HOWN1
          go_wp2
          go_loopw [7] (fun I wr => ∃ j : Nat, j ≤ xs.length ∧ I = .int .i64 j ∧ wr.ownsRow w.heap.size 9 1 (.slice (some ⟨g, 0, none⟩) xs.length cv) xs.length ((ysTo xs j).map Value.string) ∧ Below w.heap.size w wr) (fun I _ => xs.length - (intOf I).toNat)
          case atStart => exact ⟨0, Nat.zero_le _, rfl, by rw [ysTo_zero]; exact HOWN2.out, HNX2.out⟩
          case round =>
            obtain ⟨j, hj, rfl, hown3, hnx3⟩ := hrel
            by_cases hlt3 : j < xs.length
            · have hc1 : wr.cell? ⟨g, j, none⟩ = some (.string xs[j]) := by
                rw [hown3.cellAt j (by omega)]
                simp [ysTo_get xs j hlt3]
              have hfz : wr.frozen? ⟨g, j, none⟩ = false := hown3.frozenAt j
              have hxz : xs[j].size ≤ 2097152 := HZ.out j _ (List.getElem?_eq_getElem hlt3)
              have hst := (hown3.stored j (.string (addx xs[j]))).1
              rw [texts_set hlt3] at hst
              unfold addx at hst
              have HST := hide hst
              have HNX3 := hide hnx3
              have hgB : w.heap.size ≤ g := (hown3.lt g rfl).1
              clear hst hnx3 hown3
              generalize xs[j] = X at *
              have hlti : (j : Int) < (xs.length : Int) := by omega
              have h0i : (0 : Int) ≤ (j : Int) := by omega
              go_wp2
              go_roundw
              case rel => exact ⟨j + 1, by omega, by go_num, HST.out, setCell_below HNX3.out hgB⟩
              case measure => simp [intOf]; omega
            · have hys : ysTo xs j = xs.map addx := ysTo_all xs j (by omega)
              rw [hys] at hown3
              have hlen3 : (xs.map addx).length = xs.length := by simp
              have hcells3 : ∀ (i : Nat) x, (xs.map addx)[i]? = some x → wr.cell? ⟨g, 0 + i, none⟩ = some (.string x) := fun i x hx => by
                have hi : i < xs.length := by have := (List.getElem?_eq_some_iff.1 hx).1; simpa using this
                rw [Nat.zero_add, hown3.cellAt i (by omega), List.getElem?_map, hx]
                rfl
              have hgl3 := hown3.lt g rfl
              have HP2 := opath_any g 0 cv (xs.map addx) wr hcells3 hgl3.2 (by omega) (by omega) HL2.out
              rw [hlen3] at HP2
              have HR2 : ∀ w', Below wr.heap.size wr w' → Calls Tryz.prog 5 #[.slice (some ⟨g, 0, none⟩) xs.length cv] w' fun e w'' => e = .returned (.string ⟨(Lib.join (bl (xs.map addx)) [47]).toArray⟩) ∧ w' = w'' := fun w' hb => by
                have := rpath_any g 0 cv (xs.map addx) w' (fun i x hx => (hb.cell (p := ⟨g, 0 + i, none⟩) hgl3.2).trans (hcells3 i x hx)) (by omega) HL2.out
                rw [hlen3] at this
                exact this.mono fun _ _ h => ⟨h.1, h.2.symm⟩
              have HPP := hide HP2
              have HRR := hide HR2
              generalize (ByteArray.mk (Lib.join (bl (xs.map addx)) [47]).toArray) = QS at HPP HRR
              have hQQ : (QS.toList == QS.toList) = true := by simp
              have HNX3 := hide hnx3
              clear hnx3 hown3 hcells3 hys HP2 HR2 HNX2 HOWN2
              go_wp2_with fail
              refine Calls.mono HPP.out ?_
              rintro e w3 ⟨rfl, hb3⟩
              have HNT := hide (HNX3.out.trans (hb3.mono HNX3.out.size))
              have HB3 := hide hb3
              clear hb3
              go_wp2_with fail
              refine Calls.mono (HRR.out _ HB3.out) ?_
              rintro e w' ⟨rfl, rfl⟩
              have hszT := HNT.out.size
              have HFR : Hid (∀ o0, Calls Tryz.prog 6 #[.pointer (some ⟨w3.heap.size, 0, none⟩), .int .i64 0, .int .i64 0] (w3.alloc (.cells #[.pointer none, .pointer none, .pointer none, .pointer none] o0)) fun e w' => e = .returned (.bool true) ∧ ∃ b m n p r t c, OwnW w' b m n p ∧ RefW w' w.heap.size r t c ∧ w'.cell? ⟨w3.heap.size, 0, none⟩ = some (.pointer (some ⟨b, 0, none⟩)) ∧ w'.cell? ⟨w3.heap.size, 2, none⟩ = some (.pointer (some ⟨r, 0, none⟩)) ∧
                  w.heap.size ≤ b ∧ w.heap.size ≤ m ∧ w.heap.size ≤ p ∧ w3.heap.size < w'.heap.size ∧ Below w.heap.size w w' ∧ (r ≠ b ∧ r ≠ m ∧ r ≠ p) ∧ (t ≠ b ∧ t ≠ m ∧ t ≠ p)) := fun o0 => by
                have hbl := alloc_below HNT.out (.cells #[.pointer none, .pointer none, .pointer none, .pointer none] o0)
                refine (fresh_ok w3.heap.size (w3.alloc (.cells #[.pointer none, .pointer none, .pointer none, .pointer none] o0)) ?_ (by simp) (by simp) (by simp) (by simp) (fun j => by simp [go_sem]) (by omega)).mono ?_
                · obtain ⟨k, hk⟩ := HG.out
                  exact ⟨k, (hbl.cell (p := ⟨0, 0, none⟩) hw0).trans hk⟩
                · rintro e w' ⟨he, b, m, n, p, r, t, c, hO, hR, q0, q2, hb, hm, hp, hblk, hsz, h1, h2, h3, hr, ht⟩
                  simp only [World.size_alloc] at hb hm hp hsz hR hblk
                  refine ⟨he, b, m, n, p, r, t, c, hO, hR.mono (by omega), q0, q2, by omega, by omega, by omega, by omega, ?_, hr, ht⟩
                  exact hbl.trans ⟨h1, h2, h3, by simp; omega, fun k hk => hblk k (by omega) (by omega)⟩
              go_wp2_with fail
              refine Calls.mono (HFR.out _) ?_
              rintro e w5 ⟨rfl, b, m, n, p, r, t, c5, hO, hR, q0, q2, hbb, hbm, hbp, hblt, hnx5, hrr, htt⟩
              have HK := hide (looks_kind w3.heap.size b m n p r t c5 PS w5 q0 q2 hblt hO.at0 hR.at0 hPl)
              have HO5 := hide hO
              have HR5 := hide hR
              have HN5 := hide hnx5
              clear hO hR hnx5 HFR
              go_wp2_with fail
              refine Calls.mono HK.out ?_
              rintro e w6 ⟨rfl, hb6⟩
              have q06 : w6.cell? ⟨w3.heap.size, 0, none⟩ = some (.pointer (some ⟨b, 0, none⟩)) := (hb6.cell (p := ⟨w3.heap.size, 0, none⟩) hblt).trans q0
              have q26 : w6.cell? ⟨w3.heap.size, 2, none⟩ = some (.pointer (some ⟨r, 0, none⟩)) := (hb6.cell (p := ⟨w3.heap.size, 2, none⟩) hblt).trans q2
              have hz6 := hb6.size
              have HD := hide (writes_remove w3.heap.size b m n p r t c5 PS w6 q06 q26 (by omega) (HO5.out.later hb6).at0 (HR5.out.later hb6).at0 hPl)
              go_wp2_with fail
              refine Calls.mono HD.out ?_
              rintro e w7 ⟨rfl, hb7⟩
              have hb67 : Below w5.heap.size w5 w7 := hb6.trans (hb7.mono hb6.size)
              have hz7 := hb7.size
              have HM := hide (writes_mkdir w.heap.size w3.heap.size b m n p r t c5 PS w7 ((hb7.cell (p := ⟨w3.heap.size, 0, none⟩) (by show w3.heap.size < w6.heap.size; omega)).trans q06) ((hb7.cell (p := ⟨w3.heap.size, 2, none⟩) (by show w3.heap.size < w6.heap.size; omega)).trans q26) (by omega) (HO5.out.later hb67) (HR5.out.later hb67) (by have := HN5.out.size; omega) hbb hbm hbp hrr htt hPl)
              have HN7 := hide (HN5.out.trans (hb67.mono HN5.out.size))
              clear HK HD hb6 hb7 hb67 q0 q2 q06 q26
              go_wp2_with fail
              refine Calls.mono HM.out ?_
              rintro e w8 ⟨rfl, hb8⟩
              go_wp2
              go_ret
              exact ⟨rfl, HN7.out.trans hb8⟩
end Go.Proofs.YtgdibjnendjhnaaGreatDoor
