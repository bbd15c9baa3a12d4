import Derived.Test.YtjibhdcnibgegaaRzLookP
namespace Go.Proofs.Ytjibhdcnibgegaa
open Go.RowKit
theorem pf_first {ps : List KV} {k : ByteArray} {j : Nat} (hr : Rises ps.length (fun t => (ps.getD t default).1)) (hj : j < ps.length) (e : ps[j].1 = k) : pairFor ps k = some ps[j] := pairFor_some hr hj (by rw [getD_at hj]; exact e)
theorem pf_never {ps : List KV} {k : ByteArray} (h : ∀ t (ht : t < ps.length), ps[t].1 ≠ k) : pairFor ps k = none := pairFor_none (fun t ht => by rw [getD_at ht]; exact h t ht)
set_option maxHeartbeats 2000000 in
set_option maxRecDepth 100000 in
set_option linter.unusedSimpArgs false in
/-- the document's Among -/
theorem among_any (v : Value) (base : Nat) (gs : List GR) (h k : ByteArray) (w : World) (hG : GroupsAt w base v gs) (hr : Rises gs.length (fun t => (gs.getD t default).1)) (he : ∀ g ∈ gs, errL g.2 = 0) (hlen : gs.length ≤ 1048576) :
    Calls Try.prog 52 #[v, .string h, .string k] w fun e w' => e = .returned (.tuple #[.string ((lkV gs h k).getD ⟨#[]⟩), .bool (lkV gs h k).isSome]) ∧ Below w.heap.size w w' := by
  obtain ⟨ao, g, cap, rfl, h1, h2, h3⟩ := hG.split
  have H3 := hide h3
  have HR := hide hr
  have HE := hide he
  clear hG h3 hr he
  go_enter Try.func52, Try.ntmps52
  go_wp2_with fail
  go_loopw [8] (fun i wr => ∃ j : Nat, j ≤ gs.length ∧ i = .int .i64 j ∧ (∀ t (ht : t < gs.length), t < j → gs[t].1 = h → pairFor gs[t].2 k = none) ∧ Below w.heap.size w wr) (fun i _ => gs.length - (intOf i).toNat)
  case atStart => exact ⟨0, Nat.zero_le _, rfl, fun t _ ht => by omega, Below.refl _ _⟩
  case round =>
    obtain ⟨i, hi, rfl, hno, hnx⟩ := hrel
    by_cases hlt : i < gs.length
    · obtain rfl := h1 (by omega)
      have t1 := h2 (by omega)
      obtain ⟨p1, d1, d2, d3⟩ := H3.out i hlt
      obtain ⟨q1, r1, u1, rfl, x11, x12, x13⟩ := own_pairs d3
      have hfine := fine (HE.out _ (List.getElem_mem hlt))
      have KR := hide (keys_rise (HE.out _ (List.getElem_mem hlt)))
      obtain ⟨ps, hps⟩ : ∃ ps, ps = gs[i].2 := ⟨_, rfl⟩
      obtain ⟨X, hX⟩ : ∃ X, X = gs[i].1 := ⟨_, rfl⟩
      rw [← hps] at d2 d3 x11 x12 x13 hfine KR
      rw [← hX] at d1
      have x0 := x11 (by omega)
      subst x0
      have x12' := x12 (by omega)
      have HX := hide hX
      have HPS := hide hps
      have HNO := hide hno
      have HD : Hid (∀ w', Below w.heap.size w w' → w'.cell? ⟨g, i * 2, none⟩ = some (.string X) ∧ w'.cell? ⟨g, i * 2 + 1, none⟩ = some (.slice (some ⟨r1, 0, none⟩) ps.length u1) ∧ LiesP r1 0 w' ps) := fun w' hw => by
        rw [hw.cell (by exact t1), hw.cell (by exact t1)]
        exact ⟨d1, d2, x13.below x12' hw⟩
      have hpl : ps.length ≤ 512 := hfine.1
      have HNX := hide hnx
      have hii : (i : Int) < (gs.length : Int) := by omega
      clear hno hnx hX hps d1 d2 d3 x11 x12 x13 hfine
      go_wp2_with fail
      go_loopw [9] (fun jv wr2 => ∃ j : Nat, j ≤ ps.length ∧ jv = .int .i64 j ∧ (X = h → ∀ t (ht : t < ps.length), t < j → ps[t].1 ≠ k) ∧ Below w.heap.size w wr2) (fun jv _ => ps.length - (intOf jv).toNat)
      case atStart => exact ⟨0, Nat.zero_le _, rfl, fun _ t _ ht => by omega, HNX.out⟩
      case round =>
        obtain ⟨j, hj, rfl, hin, hnx2⟩ := hrel
        have HIN := hide hin
        have HN2 := hide hnx2
        obtain ⟨c0, c1, c2⟩ := HD.out wr hnx2
        have C2 := hide c2
        clear hin hnx2 c2
        by_cases hjl : j < ps.length
        · have hji : (j : Int) < (ps.length : Int) := by omega
          obtain ⟨y0, y1⟩ := C2.out j hjl
          rw [Nat.zero_add] at y0 y1
          by_cases hX : X = h
          · have hXb : (X.toList == h.toList) = true := by rw [eq_beq]; exact decide_eq_true hX
            by_cases hK : ps[j].1 = k
            · have hKb : (ps[j].1.toList == k.toList) = true := by rw [eq_beq]; exact decide_eq_true hK
              have LK : Hid (lkV gs h k = some ps[j].2) := by
                have e : lkV gs h k = some ps[j].2 := by
                  rw [lk_some HR.out hlt (HX.out.symm.trans hX), ← HPS.out, pf_first KR.out hjl hK]; rfl
                exact e
              clear hX hK
              generalize ps[j].1 = K1 at *
              generalize ps[j].2 = V1 at *
              go_wp2_with fail
              go_ret2
              exact ⟨by rw [LK.out]; rfl, HN2.out⟩
            · have hKb : (ps[j].1.toList == k.toList) = false := by rw [eq_beq]; exact decide_eq_false hK
              have REL : Hid (X = h → ∀ t (ht : t < ps.length), t < j + 1 → ps[t].1 ≠ k) := by
                intro e t ht ht2
                rcases Nat.lt_or_ge t j with h5 | h5
                · exact HIN.out e t ht h5
                · obtain rfl : t = j := by omega
                  exact hK
              clear hX hK
              generalize ps[j].1 = K1 at *
              generalize ps[j].2 = V1 at *
              go_wp2_with fail
              go_roundw
              case rel => exact ⟨j + 1, by omega, by go_num, REL.out, HN2.out⟩
              case measure => simp [intOf]; omega
          · have hXb : (X.toList == h.toList) = false := by rw [eq_beq]; exact decide_eq_false hX
            have REL : Hid (X = h → ∀ t (ht : t < ps.length), t < j + 1 → ps[t].1 ≠ k) := fun e => absurd e hX
            clear hX
            generalize ps[j].1 = K1 at *
            generalize ps[j].2 = V1 at *
            go_wp2_with fail
            go_roundw
            case rel => exact ⟨j + 1, by omega, by go_num, REL.out, HN2.out⟩
            case measure => simp [intOf]; omega
        · have hji : ¬ (j : Int) < (ps.length : Int) := by omega
          have REL : Hid (∀ t (ht : t < gs.length), t < i + 1 → gs[t].1 = h → pairFor gs[t].2 k = none) := by
            intro t ht ht2 e
            rcases Nat.lt_or_ge t i with h5 | h5
            · exact HNO.out t ht h5 e
            · obtain rfl : t = i := by omega
              rw [← HPS.out]
              exact pf_never (fun u hu => HIN.out (HX.out.trans e) u hu (by omega))
          go_wp2_with fail
          go_roundw
          case rel => exact ⟨i + 1, by omega, by go_num, REL.out, HN2.out⟩
          case measure => simp [intOf]; omega
    · have hii : ¬ (i : Int) < (gs.length : Int) := by omega
      have LK : Hid (lkV gs h k = none) := by
        have e : lkV gs h k = none := by
          by_cases hx : ∃ t, ∃ (ht : t < gs.length), gs[t].1 = h
          · obtain ⟨t, ht, e⟩ := hx
            rw [lk_some HR.out ht e, hno t ht (by omega) e]; rfl
          · exact lk_none (fun t ht e => hx ⟨t, ht, e⟩)
        exact e
      have HNX := hide hnx
      clear hno hnx
      go_wp2_with fail
      go_ret2
      exact ⟨by rw [LK.out]; rfl, HNX.out⟩
end Go.Proofs.Ytjibhdcnibgegaa
