import Derived.Test.YtndfhpfhgdamgaaGreatDoorGCaBase
import Derived.BigRegion
namespace Go.Proofs.YtndfhpfhgdamgaaGreatDoor.Cn
open Go.RowKit
/-- ints, as cells -/
def ints (L : List Int) : List Value := L.map fun n : Int => .int .i64 n
theorem ints_len (L : List Int) : (ints L).length = L.length := by simp [ints]
theorem ints_at (L : List Int) (q : Nat) : (ints L)[q]? = (L[q]?).map fun n : Int => .int .i64 n := by simp [ints]
theorem ints_append (a b : List Int) : ints (a ++ b) = ints a ++ ints b := by simp [ints]
theorem ints_one (L : List Int) : ∀ u ∈ ints L, u.oneCell' = true := by
  intro u hu
  obtain ⟨n, _, rfl⟩ := List.mem_map.1 hu
  rfl
theorem ints_set (L : List Int) (i : Nat) (x : Int) : (ints L).set i (.int .i64 x) = ints (L.set i x) := by simp [ints, List.map_set]
/-- a row of ints that fills its block -/
def Rw (w : World) (g : Nat) (d : List Int) : Prop := w.heap[g]? = some (.cells (ints d).toArray 3)
theorem Rw.cell {w : World} {g : Nat} {d : List Int} (h : Rw w g d) {i : Nat} (hi : i < d.length) : w.cell? ⟨g, i, none⟩ = some (.int .i64 (atL d i)) := by
  unfold World.cell?
  dsimp only
  rw [h]
  dsimp only
  rw [List.getElem?_toArray, ints_at, atL_some hi]
  rfl
theorem Rw.fz {w : World} {g : Nat} {d : List Int} (h : Rw w g d) (i : Nat) : w.frozen? ⟨g, i, none⟩ = false := by
  unfold World.frozen?; rw [h]; simp
theorem Rw.set {w : World} {g : Nat} {d : List Int} (h : Rw w g d) (i : Nat) (x : Int) : Rw (w.setCell ⟨g, i, none⟩ (.int .i64 x)) g (d.set i x) := by
  unfold Rw
  rw [heap_setCell _ _ _ _ _ _ _ h, List.setIfInBounds_toArray, ints_set]
theorem Rw.swp {w : World} {g : Nat} {d : List Int} (h : Rw w g d) (i j : Nat) : Rw ((w.setCell ⟨g, i, none⟩ (.int .i64 (atL d j))).setCell ⟨g, j, none⟩ (.int .i64 (atL d i))) g (swp d i j) := (h.set i _).set j _
/-- the row, and all else as it was -/
structure Sx (w0 w : World) (g : Nat) (d : List Int) : Prop where
  row : Rw w g d
  kp : Kp w0 w (fun k => k = g)
theorem Sx.drewN {w0 w : World} {g : Nat} {d : List Int} (h : Sx w0 w g d) (n : Nat) : Sx w0 (w.drewN n) g d := ⟨h.row, h.kp.drewN n⟩
theorem Sx.drew {w0 w : World} {g : Nat} {d : List Int} (h : Sx w0 w g d) : Sx w0 w.drew g d := ⟨h.row, h.kp.drew⟩
theorem Sx.swp {w0 w : World} {g : Nat} {d : List Int} (h : Sx w0 w g d) (i j : Nat) : Sx w0 ((w.setCell ⟨g, i, none⟩ (.int .i64 (atL d j))).setCell ⟨g, j, none⟩ (.int .i64 (atL d i))) g (swp d i j) :=
  ⟨h.row.swp i j, (h.kp.set (Or.inl rfl) _ _).set (Or.inl rfl) _ _⟩
set_option maxHeartbeats 4000000 in
set_option maxRecDepth 100000 in
set_option linter.unusedSimpArgs false in
set_option linter.unusedVariables false in
theorem swapRange_any {w0 w : World} {g : Nat} {d : List Int} (h : Sx w0 w g d) (a b n : Nat) (fv : Value) (h1 : a + n ≤ b) (h2 : b + n ≤ d.length) (hl : d.length ≤ 1000000) :
    Calls Tryz.prog 134 #[.slice (some ⟨g, 0, none⟩) d.length d.length, .int .i64 (a : Int), .int .i64 (b : Int), .int .i64 (n : Int), fv] w fun e w' => e = .returned (.tuple #[]) ∧ Sx w0 w' g (swpR d a b n) := by
  have H := hide h
  obtain ⟨N, hN⟩ : ∃ N, N = d.length := ⟨_, rfl⟩
  rw [← hN] at h2 hl ⊢
  have HN := hide hN
  clear h hN
  go_enter Tryz.func134, Tryz.ntmps134
  go_wp2_with fail
  go_loopw [10] (fun vi wr => ∃ (i : Nat), i ≤ n ∧ vi = .int .i64 (i : Int) ∧ Hid (Sx w0 wr g (swpR d a b i))) (fun vi _ => n - (intOf vi).toNat)
  case atStart => exact ⟨0, Nat.zero_le _, rfl, H.out⟩
  case round =>
    obtain ⟨i, hi, rfl, HS⟩ := hrel
    by_cases hin : i < n
    · have hii : (i : Int) < (n : Int) := by omega
      have HL : Hid ((swpR d a b i).length = N) := by show _ = _; rw [swpR_len, HN.out]
      have HE : Hid (swpR d a b (i + 1) = swp (swpR d a b i) (a + i) (b + i)) := rfl
      generalize swpR d a b i = d1 at *
      have c1 := HS.out.row.cell (i := a + i) (by rw [HL.out]; omega)
      have c2 := HS.out.row.cell (i := b + i) (by rw [HL.out]; omega)
      have f1 := HS.out.row.fz (a + i)
      have f2 := HS.out.row.fz (b + i)
      have HF := (HS.out.swp (a + i) (b + i)).drew
      generalize atL d1 (a + i) = x at *
      generalize atL d1 (b + i) = y at *
      obtain ⟨p, hp⟩ : ∃ p, p = a + i := ⟨_, rfl⟩
      obtain ⟨q, hq⟩ : ∃ q, q = b + i := ⟨_, rfl⟩
      rw [← hp] at c1 f1 HF HE
      rw [← hq] at c2 f2 HF HE
      have pz : (a : Int) + (i : Int) = (p : Int) := by omega
      have qz : (b : Int) + (i : Int) = (q : Int) := by omega
      have pN : (p : Int) < (N : Int) := by omega
      have qN : (q : Int) < (N : Int) := by omega
      have HF := hide HF
      have HP := hide hp
      have HQ := hide hq
      have hpq : p ≠ q := by omega
      clear hp hq
      go_wp2_with fail
      go_big_region
      all_goals go_wp2_with fail
      refine ⟨⟨i + 1, by omega, by go_num, ?_⟩, by simp [intOf]; omega⟩
      rw [HE.out]
      exact HF
    · obtain rfl : i = n := by omega
      go_wp2_with fail
      go_end0
      exact ⟨rfl, HS.out⟩
set_option maxHeartbeats 4000000 in
set_option maxRecDepth 100000 in
set_option linter.unusedSimpArgs false in
set_option linter.unusedVariables false in
theorem rotate_any {w0 w : World} {g : Nat} {d : List Int} (h : Sx w0 w g d) (a m b : Nat) (fv : Value) (h1 : a < m) (h2 : m < b) (h3 : b ≤ d.length) (hl : d.length ≤ 1000000) :
    Calls Tryz.prog 133 #[.slice (some ⟨g, 0, none⟩) d.length d.length, .int .i64 (a : Int), .int .i64 (m : Int), .int .i64 (b : Int), fv] w fun e w' => e = .returned (.tuple #[]) ∧ ∃ f : List Int, f.length = d.length ∧ (∀ t, atL f t = rotF d a m b t) ∧ Sx w0 w' g f := by
  have H := hide h
  have SR : Hid (∀ (W : World) (d1 : List Int), d1.length = d.length → Sx w0 W g d1 → ∀ x y n : Nat, x + n ≤ y → y + n ≤ d.length → Calls Tryz.prog 134 #[.slice (some ⟨g, 0, none⟩) d.length d.length, .int .i64 (x : Int), .int .i64 (y : Int), .int .i64 (n : Int), fv] W fun e w' => e = .returned (.tuple #[]) ∧ Sx w0 w' g (swpR d1 x y n)) := fun W d1 e hs x y n q1 q2 => by
    have := swapRange_any hs x y n fv q1 (by rw [e]; exact q2) (by rw [e]; exact hl)
    rwa [e] at this
  obtain ⟨N, hN⟩ : ∃ N, N = d.length := ⟨_, rfl⟩
  rw [← hN] at h3 hl SR ⊢
  have HN := hide hN
  clear h hN
  have e1 : (m : Int) - (a : Int) = ((m - a : Nat) : Int) := by omega
  have e2 : (b : Int) - (m : Int) = ((b - m : Nat) : Int) := by omega
  go_enter Tryz.func133, Tryz.ntmps133
  go_wp2_with fail
  go_loopw [10, 11] (fun vi vj wr => ∃ (i j : Nat) (d1 : List Int), 0 < i ∧ 0 < j ∧ i ≤ m - a ∧ j ≤ b - m ∧ vi = .int .i64 (i : Int) ∧ vj = .int .i64 (j : Int) ∧ Hid (d1.length = N) ∧ Hid (∀ t, rotF d1 (m - i) m (m + j) t = rotF d a m b t) ∧ Hid (Sx w0 wr g d1)) (fun vi vj _ => (intOf vi).toNat + (intOf vj).toNat)
  case atStart => exact ⟨m - a, b - m, d, by omega, by omega, Nat.le_refl _, Nat.le_refl _, by rw [← e1], by rw [← e2], HN.out.symm, fun t => by rw [show m - (m - a) = a by omega, show m + (b - m) = b by omega], H.out⟩
  case round =>
    clear H e1 e2
    obtain ⟨i, j, d1, i0, j0, hi, hj, rfl, rfl, HL, HR, HS⟩ := hrel
    have z1 : (m : Int) - (i : Int) = ((m - i : Nat) : Int) := by omega
    by_cases hij : i = j
    · subst hij
      have S1 := hide (SR.out wr d1 HL.out HS.out (m - i) m i (by omega) (by omega))
      go_wp2_with fail
      refine Calls.mono S1.out ?_
      rintro e W1 ⟨rfl, h4⟩
      have H4 := hide h4
      clear h4 S1
      go_wp2_with fail
      go_end0
      refine ⟨rfl, swpR d1 (m - i) m i, (swpR_len _ _ _ _).trans HL.out, fun t => ?_, H4.out⟩
      rw [rot_eq (by omega) (by rw [HL.out]; omega), HR.out]
    · by_cases hgt : j < i
      · have q1 : ((i : Int) == (j : Int)) = false := by simp; omega
        have q2 : (j : Int) < (i : Int) := by omega
        have z3 : (i : Int) - (j : Int) = ((i - j : Nat) : Int) := by omega
        have HR2 : Hid (∀ t, rotF (swpR d1 (m - i) m j) (m - (i - j)) m (m + j) t = rotF d a m b t) := fun t => by rw [rot_gt (by omega) (by rw [HL.out]; omega) hgt]; exact HR.out t
        have S1 := hide (SR.out wr d1 HL.out HS.out (m - i) m j (by omega) (by omega))
        clear hij
        go_wp2_with fail
        refine Calls.mono S1.out ?_
        rintro e W1 ⟨rfl, h4⟩
        have H4 := hide h4
        clear h4 S1
        go_wp2_with fail
        go_roundw
        case rel => exact ⟨i - j, j, swpR d1 (m - i) m j, by omega, j0, by omega, hj, by first | rfl | go_num | (congr 1; omega), rfl, (swpR_len _ _ _ _).trans HL.out, HR2, H4⟩
        case measure => simp [intOf]; omega
      · have q1 : ((i : Int) == (j : Int)) = false := by simp; omega
        have hlt : i < j := by omega
        have q2 : ¬ (j : Int) < (i : Int) := by omega
        have z3 : (j : Int) - (i : Int) = ((j - i : Nat) : Int) := by omega
        have z4 : (m : Int) + (j : Int) - (i : Int) = ((m + j - i : Nat) : Int) := by omega
        have HR2 : Hid (∀ t, rotF (swpR d1 (m - i) (m + j - i) i) (m - i) m (m + (j - i)) t = rotF d a m b t) := fun t => by rw [rot_lt (by omega) (by rw [HL.out]; omega) (by omega)]; exact HR.out t
        have S1 := hide (SR.out wr d1 HL.out HS.out (m - i) (m + j - i) i (by omega) (by omega))
        clear hij
        go_wp2_with fail
        refine Calls.mono S1.out ?_
        rintro e W1 ⟨rfl, h4⟩
        have H4 := hide h4
        clear h4 S1
        go_wp2_with fail
        go_roundw
        case rel => exact ⟨i, j - i, swpR d1 (m - i) (m + j - i) i, i0, by omega, hi, by omega, rfl, by first | rfl | go_num | (congr 1; omega), (swpR_len _ _ _ _).trans HL.out, HR2, H4⟩
        case measure => simp [intOf]; omega
end Go.Proofs.YtndfhpfhgdamgaaGreatDoor.Cn
namespace Go.Proofs.YtndfhpfhgdamgaaGreatDoor.Cn
open Go.RowKit
/-- what is asked of the comparison: it only reads, and not the row -/
structure CmpC (w0 : World) (g : Nat) (cb : Value) (K : Int → Int) (ok : Int → Prop) (cf : Int → Int → Int) : Prop where
  cl : ∀ W, Kp w0 W (fun k => k = g) → ∀ x y, ok x → ok y → Calls Tryz.prog 101 #[.int .i64 x, .int .i64 y, cb] W fun e w' => e = .returned (.int .i64 (cf x y)) ∧ ∃ q, w' = W.drewN q
  lt : ∀ x y, cf x y < 0 ↔ K x < K y
/-- the row may be compared -/
def OkL (ok : Int → Prop) (d : List Int) : Prop := ∀ x ∈ d, ok x
theorem OkL.at_ {ok : Int → Prop} {d : List Int} (h : OkL ok d) {i : Nat} (hi : i < d.length) : ok (atL d i) := by
  rw [atL_get hi]
  exact h _ (List.getElem_mem hi)
theorem OkL.eqf {ok : Int → Prop} {K : Int → Int} {d e : List Int} (h : OkL ok d) (he : EqF K d e) : OkL ok e := fun x hx => h x (he.mem.1 hx)
set_option maxHeartbeats 8000000 in
set_option maxRecDepth 100000 in
set_option linter.unusedSimpArgs false in
set_option linter.unusedVariables false in
theorem insSort_any {w0 w : World} {g : Nat} {d : List Int} (h : Sx w0 w g d) {cb : Value} {Ky : Int → Int} {ok : Int → Prop} {cf : Int → Int → Int} (hc : CmpC w0 g cb Ky ok cf) (ho : OkL ok d) (a b : Nat) (h1 : a ≤ b) (h2 : b ≤ d.length) (hl : d.length ≤ 1000000) :
    Calls Tryz.prog 130 #[.slice (some ⟨g, 0, none⟩) d.length d.length, .int .i64 (a : Int), .int .i64 (b : Int), .func (.func 101) #[] #[cb]] w fun e w' => e = .returned (.tuple #[]) ∧ ∃ f : List Int, Seg Ky d f a b ∧ Srt Ky f a b ∧ Sx w0 w' g f := by
  have H := hide h
  have HC := hide hc
  have HO := hide ho
  obtain ⟨N, hN⟩ : ∃ N, N = d.length := ⟨_, rfl⟩
  rw [← hN] at h2 hl ⊢
  have HN := hide hN
  clear h hN hc ho
  go_enter Tryz.func130, Tryz.ntmps130
  go_wp2_with fail
  go_loopw [8] (fun vi wr => ∃ (i : Nat) (d1 : List Int), a < i ∧ (i ≤ b ∨ i = a + 1) ∧ vi = .int .i64 (i : Int) ∧ Hid (Seg Ky d d1 a b) ∧ Hid (Srt Ky d1 a i) ∧ Hid (Sx w0 wr g d1)) (fun vi _ => b + 1 - (intOf vi).toNat)
  case atStart => exact ⟨a + 1, d, by omega, by omega, by go_num, Seg.refl _ _ _, Srt.tiny _ (Nat.le_refl _), H.out⟩
  case round =>
    clear H
    obtain ⟨i, d1, hai, hib, rfl, HG, HR, HS⟩ := hrel
    by_cases hlt : i < b
    · have hltz : (i : Int) < (b : Int) := by omega
      go_wp2_with fail
      go_loopw [9] (fun vj wr => ∃ (j : Nat) (d2 : List Int), vj = .int .i64 (j : Int) ∧ a ≤ j ∧ j ≤ i ∧ Hid (Seg Ky d1 d2 a b) ∧ Hid (Ins Ky d2 a i j) ∧ Hid (Sx w0 wr g d2)) (fun vj _ => (intOf vj).toNat)
      case atStart => exact ⟨i, d1, rfl, by omega, Nat.le_refl _, Seg.refl _ _ _, Ins.start HR.out (by omega), HS.out⟩
      case round =>
        clear HS
        obtain ⟨j, d2, rfl, haj, hji, HG2, HI, HS⟩ := hrel
        have HL : Hid (d2.length = N) := by show _ = _; rw [HG2.out.len, HG.out.len, HN.out]
        by_cases hja : a < j
        · have hjaz : (a : Int) < (j : Int) := by omega
          obtain ⟨jp, hjp⟩ : ∃ jp, jp + 1 = j := ⟨j - 1, by omega⟩
          have HOK : Hid (OkL ok d2) := HO.out.eqf (HG.out.eqf.trans HG2.out.eqf)
          have c1 := HS.out.row.cell (i := j) (by rw [HL.out]; omega)
          have c2 := HS.out.row.cell (i := jp) (by rw [HL.out]; omega)
          have f1 := HS.out.row.fz j
          have f2 := HS.out.row.fz jp
          have CM := fun k => HC.out.cl (wr.drewN k) (HS.out.kp.drewN k) (atL d2 j) (atL d2 jp) (HOK.out.at_ (by rw [HL.out]; omega)) (HOK.out.at_ (by rw [HL.out]; omega))
          have HLT := hide (HC.out.lt (atL d2 j) (atL d2 jp))
          have HX : Hid (∀ m, Sx w0 (((wr.drewN m).setCell ⟨g, j, none⟩ (.int .i64 (atL d2 jp))).setCell ⟨g, jp, none⟩ (.int .i64 (atL d2 j))).drew g (swp d2 j jp)) := fun m => ((HS.out.drewN m).swp j jp).drew
          have HF1 : Hid (Ky (atL d2 j) < Ky (atL d2 jp) → Seg Ky d1 (swp d2 j jp) a b ∧ Ins Ky (swp d2 j jp) a i jp) := fun q => by
            subst hjp
            rw [swp_comm d2 (by rw [HL.out]; omega) (by rw [HL.out]; omega)]
            exact ⟨HG2.out.trans ((seg_swp (by rw [HL.out]; omega) (by omega)).mono (by omega) (by omega)), HI.out.step (by rw [HL.out]; omega) (by omega) q⟩
          have HF2 : Hid (¬ Ky (atL d2 j) < Ky (atL d2 jp) → Srt Ky d2 a (i + 1)) := fun q => HI.out.done (Or.inr ⟨hja, by rw [show j - 1 = jp by omega]; exact q⟩)
          have HSd := hide fun m => HS.out.drewN m
          generalize swp d2 j jp = d3 at *
          generalize atL d2 j = x at *
          generalize atL d2 jp = y at *
          have jz : (j : Int) < (N : Int) := by omega
          have jz1 : (jp : Int) < (N : Int) := by omega
          have ej : (j : Int) - 1 = (jp : Int) := by omega
          have hne : j ≠ jp := by omega
          have HJ := hide hjp
          clear hjp HI HS HOK
          by_cases hlv : cf x y < 0
          · go_wp2_with fail
            go_quiet (first | (go_at_call 101; refine Calls.quiet_of (CM _)))
            have d1' : (wr.drewN nq).cell? ⟨g, j, none⟩ = some (.int .i64 x) := c1
            have d2' : (wr.drewN nq).cell? ⟨g, jp, none⟩ = some (.int .i64 y) := c2
            have g1' : (wr.drewN nq).frozen? ⟨g, j, none⟩ = false := f1
            have g2' : (wr.drewN nq).frozen? ⟨g, jp, none⟩ = false := f2
            have HX := hide (HX.out nq)
            have HF := hide (HF1.out (HLT.out.1 hlv))
            clear c1 c2 f1 f2 CM HF1 HF2 HSd hlv HLT
            generalize wr.drewN nq = wq at *
            go_wp2_with fail
            go_big_region
            all_goals go_wp2_with fail
            exact ⟨⟨jp, d3, rfl, by omega, by omega, HF.out.1, HF.out.2, HX.out⟩, by simp [intOf]; omega⟩
          · have hlv' : decide (cf x y < 0) = false := decide_eq_false hlv
            have HF := hide (HF2.out (fun q => hlv (HLT.out.2 q)))
            clear hlv
            go_wp2_with fail
            go_quiet (first | (go_at_call 101; refine Calls.quiet_of (CM _)))
            have HX := hide (HSd.out nq)
            clear c1 c2 f1 f2 CM HF1 HF2 HSd HLT
            generalize wr.drewN nq = wq at *
            go_wp2_with fail
            go_roundw
            case rel => exact ⟨i + 1, d2, by omega, by omega, by go_num, HG.out.trans HG2.out, HF.out, HX.out⟩
            case measure => simp [intOf]; omega
        · have hjaz : ¬ (a : Int) < (j : Int) := by omega
          have hjad : decide ((j : Int) > (a : Int)) = false := decide_eq_false (by omega)
          have HF := hide (HI.out.done (Or.inl (by omega)))
          have HSd := hide fun m => HS.out.drewN m
          clear HI HS
          go_wp2_with fail
          go_quiet (fail)
          have HX := hide (HSd.out nq)
          generalize wr.drewN nq = wq at *
          go_wp2_with fail
          go_roundw
          case rel => exact ⟨i + 1, d2, by omega, by omega, by go_num, HG.out.trans HG2.out, HF.out, HX.out⟩
          case measure => simp [intOf]; omega
    · have hltz : ¬ (i : Int) < (b : Int) := by omega
      go_wp2_with fail
      go_end0
      exact ⟨rfl, d1, HG.out, HR.out.sub (Nat.le_refl _) (by omega), HS.out⟩
end Go.Proofs.YtndfhpfhgdamgaaGreatDoor.Cn
namespace Go.Proofs.YtndfhpfhgdamgaaGreatDoor.Cn
open Go.RowKit
set_option maxHeartbeats 8000000 in
set_option maxRecDepth 100000 in
set_option linter.unusedSimpArgs false in
set_option linter.unusedVariables false in
theorem sym_up {w0 w : World} {g : Nat} {d : List Int} (h : Sx w0 w g d) {cb : Value} {Ky : Int → Int} {ok : Int → Prop} {cf : Int → Int → Int} (hc : CmpC w0 g cb Ky ok cf) (ho : OkL ok d) (a b : Nat) (h1 : a + 1 < b) (h2 : b ≤ d.length) (hl : d.length ≤ 1000000) (hs : Srt Ky d (a + 1) b) (m : Nat) (hm : m = a + 1) :
    Calls Tryz.prog 131 #[.slice (some ⟨g, 0, none⟩) d.length d.length, .int .i64 (a : Int), .int .i64 (m : Int), .int .i64 (b : Int), .func (.func 101) #[] #[cb]] w fun e w' => e = .returned (.tuple #[]) ∧ ∃ f : List Int, Seg Ky d f a b ∧ Srt Ky f a b ∧ Sx w0 w' g f := by
  have H := hide h
  have HC := hide hc
  have HO := hide ho
  have HR := hide hs
  obtain ⟨N, hN⟩ : ∃ N, N = d.length := ⟨_, rfl⟩
  rw [← hN] at h2 hl ⊢
  have HN := hide hN
  have em : (m : Int) - (a : Int) = 1 := by omega
  have HM := hide hm
  have hmb : m < b := by omega
  clear h hN hc ho hs hm
  go_enter Tryz.func131, Tryz.ntmps131
  go_wp2_with fail
  go_loopw [10, 11, 12] (fun vi vj vh wr => ∃ (i j : Nat), m ≤ i ∧ i ≤ j ∧ j ≤ b ∧ vi = .int .i64 (i : Int) ∧ vj = .int .i64 (j : Int) ∧ Hid (∀ t, m ≤ t → t < i → Ky (atL d t) < Ky (atL d a)) ∧ Hid (∀ t, j ≤ t → t < b → Ky (atL d a) ≤ Ky (atL d t)) ∧ Hid (Sx w0 wr g d)) (fun vi vj _ _ => (intOf vj).toNat - (intOf vi).toNat)
  case atStart => exact ⟨m, b, Nat.le_refl _, by omega, Nat.le_refl _, rfl, rfl, fun t _ _ => by omega, fun t _ _ => by omega, H.out⟩
  case round =>
    clear H
    obtain ⟨i, j, hi, hij, hj, rfl, rfl, HLo, HHi, HS⟩ := hrel
    by_cases hlt : i < j
    · have hltz : (i : Int) < (j : Int) := by omega
      obtain ⟨q, hq⟩ : ∃ q, q = (i + j) / 2 := ⟨_, rfl⟩
      have q1 : i ≤ q := by omega
      have q2 : q < j := by omega
      have eq : ((i : Int) + (j : Int)) / 2 = (q : Int) := by omega
      have HQ := hide hq
      clear hq
      have c1 := HS.out.row.cell (i := q) (by rw [← HN.out]; omega)
      have c2 := HS.out.row.cell (i := a) (by rw [← HN.out]; omega)
      have CM := fun k => HC.out.cl (wr.drewN k) (HS.out.kp.drewN k) (atL d q) (atL d a) (HO.out.at_ (by rw [← HN.out]; omega)) (HO.out.at_ (by rw [← HN.out]; omega))
      have HLT := hide (HC.out.lt (atL d q) (atL d a))
      have HSd := hide fun m => HS.out.drewN m
      have HF1 : Hid (Ky (atL d q) < Ky (atL d a) → ∀ t, m ≤ t → t < q + 1 → Ky (atL d t) < Ky (atL d a)) := fun k t t1 t2 => by
        have := HR.out.le (i := t) (j := q) (by have := HM.out; omega) (by omega) (by omega)
        omega
      have HF2 : Hid (¬ Ky (atL d q) < Ky (atL d a) → ∀ t, q ≤ t → t < b → Ky (atL d a) ≤ Ky (atL d t)) := fun k t t1 t2 => by
        have := HR.out.le (i := q) (j := t) (by have := HM.out; omega) t1 t2
        omega
      have qz : (q : Int) < (N : Int) := by omega
      have az : (a : Int) < (N : Int) := by omega
      generalize atL d q = x at *
      generalize hy : atL d a = y at *
      have HY := hide hy
      clear hy
      by_cases hlv : cf x y < 0
      · have HF := hide (HF1.out (HLT.out.1 hlv))
        go_wp2_with fail
        go_quiet (first | (go_at_call 101; refine Calls.quiet_of (CM _)))
        have HX := hide (HSd.out nq)
        clear c1 c2 CM HF1 HF2 HSd hlv HLT HS
        generalize wr.drewN nq = wq at *
        go_wp2_with fail
        go_roundw
        case rel => exact ⟨q + 1, j, by omega, by omega, hj, by go_num, rfl, HF, HHi, HX⟩
        case measure => simp [intOf]; omega
      · have hlv' : decide (cf x y < 0) = false := decide_eq_false hlv
        have HF := hide (HF2.out (fun k => hlv (HLT.out.2 k)))
        clear hlv
        go_wp2_with fail
        go_quiet (first | (go_at_call 101; refine Calls.quiet_of (CM _)))
        have HX := hide (HSd.out nq)
        clear c1 c2 CM HF1 HF2 HSd HLT HS
        generalize wr.drewN nq = wq at *
        go_wp2_with fail
        go_roundw
        case rel => exact ⟨i, q, hi, q1, by omega, rfl, rfl, HLo, HF, HX⟩
        case measure => simp [intOf]; omega
    · obtain rfl : i = j := by omega
      have hltz : ¬ (i : Int) < (i : Int) := by omega
      have HMi : Hid (a + 1 ≤ i) := by show _ ≤ _; have := HM.out; omega
      go_wp2_with fail
      go_loopw [13] (fun vk wr => ∃ (k : Nat) (d1 : List Int), a ≤ k ∧ k ≤ i - 1 ∧ vk = .int .i64 (k : Int) ∧ Hid (Seg Ky d d1 a b) ∧ Hid (Up d d1 a k) ∧ Hid (Sx w0 wr g d1)) (fun vk _ => i - (intOf vk).toNat)
      case atStart => exact ⟨a, d, Nat.le_refl _, by have := HMi.out; omega, rfl, Seg.refl _ _ _, Up.start _ _, HS.out⟩
      case round =>
        clear HS
        obtain ⟨k, d1, hak, hki, rfl, HG, HU, HS⟩ := hrel
        have ei : (i : Int) - 1 = ((i - 1 : Nat) : Int) := by have := HMi.out; omega
        by_cases hk : k < i - 1
        · have hkz : (k : Int) < ((i - 1 : Nat) : Int) := by omega
          obtain ⟨k1, hk1⟩ : ∃ k1, k1 = k + 1 := ⟨_, rfl⟩
          have HL : Hid (d1.length = N) := by show _ = _; rw [HU.out.len, HN.out]
          have c1 := HS.out.row.cell (i := k) (by rw [HL.out]; omega)
          have c2 := HS.out.row.cell (i := k1) (by rw [HL.out]; omega)
          have f1 := HS.out.row.fz k
          have f2 := HS.out.row.fz k1
          have HX := hide (HS.out.swp k k1).drew
          have HF : Hid (Seg Ky d (swp d1 k k1) a b ∧ Up d (swp d1 k k1) a k1) := by
            subst hk1
            refine ⟨HG.out.trans ((seg_swp (by rw [HL.out]; omega) ?_).mono (by omega) (by omega)), HU.out.step hak (by rw [← HN.out]; omega)⟩
            rw [HU.out.at_, HU.out.hi (k + 1) (by omega)]
            have := HLo.out (k + 1) (by have := HM.out; omega) (by omega)
            omega
          generalize swp d1 k k1 = d3 at *
          generalize atL d1 k = x at *
          generalize atL d1 k1 = y at *
          have kz : (k : Int) + 1 = (k1 : Int) := by omega
          have kN : (k : Int) < (N : Int) := by omega
          have k1N : (k1 : Int) < (N : Int) := by omega
          have hne : k ≠ k1 := by omega
          have HK1 := hide hk1
          clear hk1 HS
          go_wp2_with fail
          go_big_region
          all_goals go_wp2_with fail
          refine ⟨⟨k1, d3, by have := HK1.out; omega, by have := HK1.out; omega, rfl, HF.out.1, HF.out.2, HX.out⟩, by have := HK1.out; simp [intOf]; omega⟩
        · obtain rfl : k = i - 1 := by omega
          have hkz : ¬ ((i - 1 : Nat) : Int) < ((i - 1 : Nat) : Int) := by omega
          have HF : Hid (Srt Ky d1 a b) := up_sorted HU.out HR.out HMi.out (by omega) (fun t t1 t2 => HLo.out t (by have := HM.out; omega) t2) HHi.out
          go_wp2_with fail
          (try simp only [Exit.inBlock, Exit.then])
          refine bodyPost_ret (results_none rfl _ _ _) rfl ?_
          exact ⟨rfl, d1, HG.out, HF.out, HS.out⟩
end Go.Proofs.YtndfhpfhgdamgaaGreatDoor.Cn
namespace Go.Proofs.YtndfhpfhgdamgaaGreatDoor.Cn
open Go.RowKit
set_option maxHeartbeats 8000000 in
set_option maxRecDepth 100000 in
set_option linter.unusedSimpArgs false in
set_option linter.unusedVariables false in
theorem sym_dn {w0 w : World} {g : Nat} {d : List Int} (h : Sx w0 w g d) {cb : Value} {Ky : Int → Int} {ok : Int → Prop} {cf : Int → Int → Int} (hc : CmpC w0 g cb Ky ok cf) (ho : OkL ok d) (a m : Nat) (h1 : a + 1 < m) (h2 : m + 1 ≤ d.length) (hl : d.length ≤ 1000000) (hs : Srt Ky d a m) (b : Nat) (hb : b = m + 1) :
    Calls Tryz.prog 131 #[.slice (some ⟨g, 0, none⟩) d.length d.length, .int .i64 (a : Int), .int .i64 (m : Int), .int .i64 (b : Int), .func (.func 101) #[] #[cb]] w fun e w' => e = .returned (.tuple #[]) ∧ ∃ f : List Int, Seg Ky d f a b ∧ Srt Ky f a b ∧ Sx w0 w' g f := by
  have H := hide h
  have HC := hide hc
  have HO := hide ho
  have HR := hide hs
  obtain ⟨N, hN⟩ : ∃ N, N = d.length := ⟨_, rfl⟩
  rw [← hN] at h2 hl ⊢
  have HN := hide hN
  have em : ((m : Int) - (a : Int) == 1) = false := by simp; omega
  have eb : (b : Int) - (m : Int) = 1 := by omega
  have HM := hide hb
  clear h hN hc ho hs hb
  go_enter Tryz.func131, Tryz.ntmps131
  go_wp2_with fail
  go_loopw [14, 15, 16] (fun vi vj vh wr => ∃ (i j : Nat), a ≤ i ∧ i ≤ j ∧ j ≤ m ∧ vi = .int .i64 (i : Int) ∧ vj = .int .i64 (j : Int) ∧ Hid (∀ t, a ≤ t → t < i → Ky (atL d t) ≤ Ky (atL d m)) ∧ Hid (∀ t, j ≤ t → t < m → Ky (atL d m) < Ky (atL d t)) ∧ Hid (Sx w0 wr g d)) (fun vi vj _ _ => (intOf vj).toNat - (intOf vi).toNat)
  case atStart => exact ⟨a, m, Nat.le_refl _, by omega, Nat.le_refl _, rfl, rfl, fun t _ _ => by omega, fun t _ _ => by omega, H.out⟩
  case round =>
    clear H
    obtain ⟨i, j, hi, hij, hj, rfl, rfl, HLo, HHi, HS⟩ := hrel
    by_cases hlt : i < j
    · have hltz : (i : Int) < (j : Int) := by omega
      obtain ⟨q, hq⟩ : ∃ q, q = (i + j) / 2 := ⟨_, rfl⟩
      have q1 : i ≤ q := by omega
      have q2 : q < j := by omega
      have eq : ((i : Int) + (j : Int)) / 2 = (q : Int) := by omega
      have HQ := hide hq
      clear hq
      have c1 := HS.out.row.cell (i := m) (by rw [← HN.out]; omega)
      have c2 := HS.out.row.cell (i := q) (by rw [← HN.out]; omega)
      have CM := fun k => HC.out.cl (wr.drewN k) (HS.out.kp.drewN k) (atL d m) (atL d q) (HO.out.at_ (by rw [← HN.out]; omega)) (HO.out.at_ (by rw [← HN.out]; omega))
      have HLT := hide (HC.out.lt (atL d m) (atL d q))
      have HSd := hide fun m => HS.out.drewN m
      have HF1 : Hid (¬ Ky (atL d m) < Ky (atL d q) → ∀ t, a ≤ t → t < q + 1 → Ky (atL d t) ≤ Ky (atL d m)) := fun k t t1 t2 => by
        have := HR.out.le (i := t) (j := q) t1 (by omega) (by omega)
        omega
      have HF2 : Hid (Ky (atL d m) < Ky (atL d q) → ∀ t, q ≤ t → t < m → Ky (atL d m) < Ky (atL d t)) := fun k t t1 t2 => by
        have := HR.out.le (i := q) (j := t) (by omega) t1 t2
        omega
      have qz : (q : Int) < (N : Int) := by omega
      have az : (m : Int) < (N : Int) := by omega
      generalize atL d q = x at *
      generalize hy : atL d m = y at *
      have HY := hide hy
      clear hy
      by_cases hlv : cf y x < 0
      · have HF := hide (HF2.out (HLT.out.1 hlv))
        go_wp2_with fail
        go_quiet (first | (go_at_call 101; refine Calls.quiet_of (CM _)))
        have HX := hide (HSd.out nq)
        clear c1 c2 CM HF1 HF2 HSd hlv HLT HS
        generalize wr.drewN nq = wq at *
        go_wp2_with fail
        go_roundw
        case rel => exact ⟨i, q, hi, q1, by omega, rfl, rfl, HLo, HF, HX⟩
        case measure => simp [intOf]; omega
      · have hlv' : decide (cf y x < 0) = false := decide_eq_false hlv
        have HF := hide (HF1.out (fun k => hlv (HLT.out.2 k)))
        clear hlv
        go_wp2_with fail
        go_quiet (first | (go_at_call 101; refine Calls.quiet_of (CM _)))
        have HX := hide (HSd.out nq)
        clear c1 c2 CM HF1 HF2 HSd HLT HS
        generalize wr.drewN nq = wq at *
        go_wp2_with fail
        go_roundw
        case rel => exact ⟨q + 1, j, by omega, by omega, hj, by go_num, rfl, HF, HHi, HX⟩
        case measure => simp [intOf]; omega
    · obtain rfl : i = j := by omega
      have hltz : ¬ (i : Int) < (i : Int) := by omega
      go_wp2_with fail
      go_loopw [17] (fun vk wr => ∃ (k : Nat) (d1 : List Int), i ≤ k ∧ k ≤ m ∧ vk = .int .i64 (k : Int) ∧ Hid (Seg Ky d d1 a b) ∧ Hid (Dn d d1 m k) ∧ Hid (Sx w0 wr g d1)) (fun vk _ => (intOf vk).toNat)
      case atStart => exact ⟨m, d, hj, Nat.le_refl _, rfl, Seg.refl _ _ _, Dn.start _ _, HS.out⟩
      case round =>
        clear HS
        obtain ⟨k, d1, hik, hkm, rfl, HG, HU, HS⟩ := hrel
        by_cases hk : i < k
        · have hkz : (i : Int) < (k : Int) := by omega
          obtain ⟨k1, hk1⟩ : ∃ k1, k = k1 + 1 := ⟨k - 1, by omega⟩
          have HL : Hid (d1.length = N) := by show _ = _; rw [HU.out.len, HN.out]
          have c1 := HS.out.row.cell (i := k) (by rw [HL.out]; omega)
          have c2 := HS.out.row.cell (i := k1) (by rw [HL.out]; omega)
          have f1 := HS.out.row.fz k
          have f2 := HS.out.row.fz k1
          have HX := hide (HS.out.swp k k1).drew
          have HF : Hid (Seg Ky d (swp d1 k k1) a b ∧ Dn d (swp d1 k k1) m k1) := by
            subst hk1
            rw [swp_comm d1 (by rw [HL.out]; omega) (by rw [HL.out]; omega)]
            refine ⟨HG.out.trans ((seg_swp (by rw [HL.out]; omega) ?_).mono (by omega) (by have := HM.out; omega)), HU.out.step hkm (by rw [← HN.out]; omega)⟩
            rw [HU.out.at_, HU.out.lo k1 (by omega)]
            have := HHi.out k1 (by omega) (by omega)
            omega
          generalize swp d1 k k1 = d3 at *
          generalize atL d1 k = x at *
          generalize atL d1 k1 = y at *
          have kz : (k : Int) - 1 = (k1 : Int) := by omega
          have kN : (k : Int) < (N : Int) := by omega
          have k1N : (k1 : Int) < (N : Int) := by omega
          have hne : k ≠ k1 := by omega
          have HK1 := hide hk1
          clear hk1 HS
          go_wp2_with fail
          go_big_region
          all_goals go_wp2_with fail
          refine ⟨⟨k1, d3, by have := HK1.out; omega, by have := HK1.out; omega, rfl, HF.out.1, HF.out.2, HX.out⟩, by have := HK1.out; simp [intOf]; omega⟩
        · obtain rfl : i = k := by omega
          have hkz : ¬ (i : Int) < (i : Int) := by omega
          have HF : Hid (Srt Ky d1 a b) := by
            have := dn_sorted HU.out HR.out hi hj HLo.out HHi.out
            rw [← HM.out] at this
            exact this
          go_wp2_with fail
          (try simp only [Exit.inBlock, Exit.then])
          refine bodyPost_ret (results_none rfl _ _ _) rfl ?_
          exact ⟨rfl, d1, HG.out, HF.out, HS.out⟩
end Go.Proofs.YtndfhpfhgdamgaaGreatDoor.Cn
