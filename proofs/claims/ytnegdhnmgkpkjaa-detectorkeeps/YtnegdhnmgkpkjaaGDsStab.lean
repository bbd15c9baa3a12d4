import Derived.Test.YtnegdhnmgkpkjaaDsSym
import Derived.Test.YtnegdhnmgkpkjaaGDeMem
import Derived.Test.YtnegdhnmgkpkjaaGDsPure
import Derived.Test.YtnegdhnmgkpkjaaGDdCalls
import Derived.Test.YtnegdhnmgkpkjaaGDdDrive
namespace Go.Proofs.Ytnegdhnmgkpkjaa
open Go.RowKit
variable {Ky : Int → Int}
/-- one block more is sorted -/
theorem srtB_add {d f : List Int} {k a b : Nat} (h : SrtB Ky d k 0 a) (hs : Seg Ky d f a b) (hr : Srt Ky f a b) (hd : ∀ i j, i < a → a ≤ j → j < b → i / k ≠ j / k) : SrtB Ky f k 0 b := fun i j i1 i2 i3 e => by
  by_cases q : j < a
  · rw [hs.out i (by omega), hs.out j (by omega)]
    exact h i j i1 i2 q e
  · by_cases q2 : i < a
    · exact absurd e (hd i j q2 (by omega) i3)
    · exact hr i j (by omega) i2 i3
theorem srtB_out {d f : List Int} {k a b l r : Nat} (h : SrtB Ky d k l r) (hs : Seg Ky d f a b) (hd : r ≤ a ∨ b ≤ l) : SrtB Ky f k l r := fun i j i1 i2 i3 e => by
  rw [hs.out i (by omega), hs.out j (by omega)]
  exact h i j i1 i2 i3 e
theorem SrtB.srt {d : List Int} {k l r a b : Nat} (h : SrtB Ky d k l r) (h1 : l ≤ a) (h2 : b ≤ r) (hd : ∀ i j, a ≤ i → i < j → j < b → i / k = j / k) : Srt Ky d a b := fun i j i1 i2 i3 => h i j (by omega) i2 (by omega) (hd i j i1 i2 i3)
set_option maxHeartbeats 8000000 in
set_option maxRecDepth 100000 in
set_option linter.unusedSimpArgs false in
set_option linter.unusedVariables false in
theorem stable_any {w0 w : World} {g : Nat} {d : List Int} (h : Sx w0 w g d) {cb : Value} {ok : Int → Prop} {cf : Int → Int → Int} (hc : CmpC w0 g cb Ky ok cf) (ho : OkL ok d) (N : Nat) (hl : d.length = N) (hN : N ≤ 300) :
    Calls Try.prog 44 #[.slice (some ⟨g, 0, none⟩) N N, .int .i64 (N : Int), .func (.func 35) #[] #[cb]] w fun e w' => e = .returned (.tuple #[]) ∧ ∃ f : List Int, Seg Ky d f 0 N ∧ Srt Ky f 0 N ∧ Sx w0 w' g f := by
  have H := hide h
  have HC := hide hc
  have HO := hide ho
  have HL := hide hl
  have SY := hide (sym_any hc N (by omega) N)
  have IN : Hid (∀ (W : World) (f : List Int) (a b : Nat), f.length = N → OkL ok f → Sx w0 W g f → a ≤ b → b ≤ N → Calls Try.prog 50 #[.slice (some ⟨g, 0, none⟩) N N, .int .i64 (a : Int), .int .i64 (b : Int), .func (.func 35) #[] #[cb]] W fun e w' => e = .returned (.tuple #[]) ∧ ∃ f' : List Int, Seg Ky f f' a b ∧ Srt Ky f' a b ∧ Sx w0 w' g f') := fun W f a b fl fo fx h1 h2 => by
    have := insSort_any fx HC.out fo a b h1 (by rw [fl]; exact h2) (by rw [fl]; omega)
    rwa [fl] at this
  clear h hc ho hl
  go_enter Try.func44, Try.ntmps44
  go_wp2_with fail
  go_loopw [7, 8] (fun va vb wr => ∃ (a : Nat) (f : List Int), a % 20 = 0 ∧ a ≤ N ∧ va = .int .i64 (a : Int) ∧ vb = .int .i64 ((a : Int) + 20) ∧ Hid (Seg Ky d f 0 N) ∧ Hid (SrtB Ky f 20 0 a) ∧ Hid (Sx w0 wr g f)) (fun va _ _ => 320 - (intOf va).toNat)
  case atStart => exact ⟨0, d, rfl, Nat.zero_le _, rfl, rfl, Seg.refl _ _ _, fun i j _ _ _ _ => by omega, H.out⟩
  case round =>
    clear H
    obtain ⟨a, f, ha, haN, rfl, rfl, HG, HB, HS⟩ := hrel
    have HFL : Hid (f.length = N) := HG.out.len.trans HL.out
    have HOF : Hid (OkL ok f) := HO.out.eqf HG.out.eqf
    have ea : ((a : Int) + 20) = ((a + 20 : Nat) : Int) := by omega
    by_cases hlt : a + 20 ≤ N
    · have hltz : (a : Int) + 20 ≤ (N : Int) := by omega
      have I1 := IN.out wr f a (a + 20) HFL.out HOF.out HS.out (by omega) hlt
      rw [← ea] at I1
      have I1 := hide I1
      clear ea
      go_wp2_with fail
      refine Calls.mono I1.out ?_
      rintro z W1 ⟨rfl, f1, hs1, hr1, hx1⟩
      have HG1 : Hid (Seg Ky d f1 0 N) := HG.out.trans (hs1.mono (Nat.zero_le _) hlt)
      have HB1 : Hid (SrtB Ky f1 20 0 (a + 20)) := srtB_add HB.out hs1 hr1 (fun i j i1 i2 i3 => by omega)
      have HX1 := hide hx1
      clear hs1 hr1 hx1 I1
      go_wp2_with fail
      go_roundw
      case rel => exact ⟨a + 20, f1, by omega, hlt, by go_num, by first | rfl | go_num | (congr 1; omega), HG1, HB1, HX1⟩
      case measure => simp [intOf]; omega
    · have hltz : ¬ (a : Int) + 20 ≤ (N : Int) := by omega
      have I1 := hide (IN.out wr f a N HFL.out HOF.out HS.out haN (Nat.le_refl _))
      clear ea
      go_wp2_with fail
      refine Calls.mono I1.out ?_
      rintro z W1 ⟨rfl, f1, hs1, hr1, hx1⟩
      have HG1 : Hid (Seg Ky d f1 0 N) := HG.out.trans (hs1.mono (Nat.zero_le _) (Nat.le_refl _))
      have HB1 : Hid (SrtB Ky f1 20 0 N) := srtB_add HB.out hs1 hr1 (fun i j i1 i2 i3 => by omega)
      have HX1 := hide hx1
      clear hs1 hr1 hx1 I1 HG HB HS HFL HOF
      go_wp2_with fail
      go_loopw [6, 7, 8, 9] (fun vs va vb vm wr => ∃ (k : Nat) (f : List Int), (k = 20 ∨ k = 40 ∨ k = 80 ∨ k = 160 ∨ k = 320) ∧ vs = .int .i64 (k : Int) ∧ Hid (Seg Ky d f 0 N) ∧ Hid (SrtB Ky f k 0 N) ∧ Hid (Sx w0 wr g f)) (fun vs _ _ _ _ => 320 - (intOf vs).toNat)
      case atStart => exact ⟨20, f1, Or.inl rfl, rfl, HG1.out, HB1.out, HX1.out⟩
      case round =>
        clear HG1 HB1 HX1
        obtain ⟨k, f, hk, rfl, HG, HB, HS⟩ := hrel
        by_cases hkN : k < N
        · have hkz : (k : Int) < (N : Int) := by omega
          go_wp2_with fail
          go_loopw [7, 8] (fun va vb wr => ∃ (a : Nat) (f : List Int), a % (2 * k) = 0 ∧ a ≤ N ∧ va = .int .i64 (a : Int) ∧ vb = .int .i64 ((a : Int) + 2 * (k : Int)) ∧ Hid (Seg Ky d f 0 N) ∧ Hid (SrtB Ky f (2 * k) 0 a) ∧ Hid (SrtB Ky f k a N) ∧ Hid (Sx w0 wr g f)) (fun va _ _ => 640 - (intOf va).toNat)
          case atStart => exact ⟨0, f, by rw [Nat.zero_mod], Nat.zero_le _, rfl, by first | rfl | go_num | (congr 1; omega), HG.out, fun i j _ _ _ _ => by omega, HB.out, HS.out⟩
          case round =>
            clear HG HB HS
            obtain ⟨a, f, ha, haN, rfl, rfl, HG, HB, HB2, HS⟩ := hrel
            have HFL : Hid (f.length = N) := HG.out.len.trans HL.out
            have HOF : Hid (OkL ok f) := HO.out.eqf HG.out.eqf
            have ea : ((a : Int) + 2 * (k : Int)) = ((a + 2 * k : Nat) : Int) := by omega
            have ek : ((a : Int) + (k : Int)) = ((a + k : Nat) : Int) := by omega
            by_cases hlt : a + 2 * k ≤ N
            · have hltz : (a : Int) + 2 * (k : Int) ≤ (N : Int) := by omega
              have S1 : Hid (Calls Try.prog 51 #[.slice (some ⟨g, 0, none⟩) N N, .int .i64 (a : Int), .int .i64 ((a : Int) + (k : Int)), .int .i64 ((a : Int) + 2 * (k : Int)), .func (.func 35) #[] #[cb]] wr fun e w' => e = .returned (.tuple #[]) ∧ ∃ f' : List Int, Seg Ky f f' a (a + 2 * k) ∧ Srt Ky f' a (a + 2 * k) ∧ Sx w0 w' g f') := by
                have := SY.out wr f a (a + k) (a + 2 * k) (by omega) (by omega) (by omega) hlt HFL.out (HB2.out.srt (Nat.le_refl _) (by omega) (fun i j i1 i2 i3 => by rcases hk with rfl | rfl | rfl | rfl | rfl <;> omega)) (HB2.out.srt (by omega) hlt (fun i j i1 i2 i3 => by rcases hk with rfl | rfl | rfl | rfl | rfl <;> omega)) HOF.out HS.out
                rw [ea, ek]
                exact this
              clear ea ek
              go_wp2_with fail
              refine Calls.mono S1.out ?_
              rintro z W1 ⟨rfl, f1, hs1, hr1, hx1⟩
              have HG1 : Hid (Seg Ky d f1 0 N) := HG.out.trans (hs1.mono (Nat.zero_le _) hlt)
              have HB1 : Hid (SrtB Ky f1 (2 * k) 0 (a + 2 * k)) := srtB_add HB.out hs1 hr1 (fun i j i1 i2 i3 => by rcases hk with rfl | rfl | rfl | rfl | rfl <;> omega)
              have HB3 : Hid (SrtB Ky f1 k (a + 2 * k) N) := srtB_out (fun i j i1 i2 i3 e => HB2.out i j (by omega) i2 i3 e) hs1 (Or.inr (Nat.le_refl _))
              have HX1 := hide hx1
              clear hs1 hr1 hx1 S1
              go_wp2_with fail
              go_roundw
              case rel => exact ⟨a + 2 * k, f1, by rw [Nat.add_mod_right]; exact ha, hlt, by first | rfl | go_num | (congr 1; omega), by first | rfl | go_num | (congr 1; omega), HG1, HB1, HB3, HX1⟩
              case measure => simp [intOf]; omega
            · have hltz : ¬ (a : Int) + 2 * (k : Int) ≤ (N : Int) := by omega
              by_cases hm : a + k < N
              · have hmz : (a : Int) + (k : Int) < (N : Int) := by omega
                have S1 : Hid (Calls Try.prog 51 #[.slice (some ⟨g, 0, none⟩) N N, .int .i64 (a : Int), .int .i64 ((a : Int) + (k : Int)), .int .i64 (N : Int), .func (.func 35) #[] #[cb]] wr fun e w' => e = .returned (.tuple #[]) ∧ ∃ f' : List Int, Seg Ky f f' a N ∧ Srt Ky f' a N ∧ Sx w0 w' g f') := by
                  have := SY.out wr f a (a + k) N (by omega) (by omega) hm (Nat.le_refl _) HFL.out (HB2.out.srt (Nat.le_refl _) (by omega) (fun i j i1 i2 i3 => by rcases hk with rfl | rfl | rfl | rfl | rfl <;> omega)) (HB2.out.srt (by omega) (Nat.le_refl _) (fun i j i1 i2 i3 => by rcases hk with rfl | rfl | rfl | rfl | rfl <;> omega)) HOF.out HS.out
                  rw [ek]
                  exact this
                clear ea ek
                go_wp2_with fail
                refine Calls.mono S1.out ?_
                rintro z W1 ⟨rfl, f1, hs1, hr1, hx1⟩
                have HG1 : Hid (Seg Ky d f1 0 N) := HG.out.trans (hs1.mono (Nat.zero_le _) (Nat.le_refl _))
                have HB1 : Hid (SrtB Ky f1 (2 * k) 0 N) := srtB_add HB.out hs1 hr1 (fun i j i1 i2 i3 => by rcases hk with rfl | rfl | rfl | rfl | rfl <;> omega)
                have HX1 := hide hx1
                clear hs1 hr1 hx1 S1
                go_wp2_with fail
                go_roundw
                case rel => exact ⟨2 * k, f1, by omega, by first | rfl | go_num | (congr 1; omega), HG1, HB1, HX1⟩
                case measure => simp [intOf]; omega
              · have hmz : ¬ (a : Int) + (k : Int) < (N : Int) := by omega
                have HB1 : Hid (SrtB Ky f (2 * k) 0 N) := srtB_add HB.out (Seg.refl f a N) (HB2.out.srt (Nat.le_refl _) (Nat.le_refl _) (fun i j i1 i2 i3 => by rcases hk with rfl | rfl | rfl | rfl | rfl <;> omega)) (fun i j i1 i2 i3 => by rcases hk with rfl | rfl | rfl | rfl | rfl <;> omega)
                clear ea ek
                go_wp2_with fail
                go_roundw
                case rel => exact ⟨2 * k, f, by omega, by first | rfl | go_num | (congr 1; omega), HG, HB1, HS⟩
                case measure => simp [intOf]; omega
        · have hkz : ¬ (k : Int) < (N : Int) := by omega
          have HF : Hid (Srt Ky f 0 N) := HB.out.srt (Nat.le_refl _) (Nat.le_refl _) (fun i j i1 i2 i3 => by rcases hk with rfl | rfl | rfl | rfl | rfl <;> omega)
          go_wp2_with fail
          go_end0
          exact ⟨rfl, f, HG.out, HF.out, HS.out⟩
end Go.Proofs.Ytnegdhnmgkpkjaa
namespace Go.Proofs.Ytnegdhnmgkpkjaa
open Go.RowKit
set_option maxHeartbeats 4000000 in
set_option maxRecDepth 100000 in
theorem isNaN_any (w : World) (x : Int) : Calls Try.prog 45 #[.int .i64 x] w fun e w' => e = .returned (.bool false) ∧ w = w' := by
  go_enter Try.func45, Try.ntmps45
  go_wp2_with fail
  go_ret
  exact ⟨by simp, rfl⟩
def cmpI (x y : Int) : Int := if x < y then -1 else if y < x then 1 else 0
theorem cmpI_lt (x y : Int) : cmpI x y < 0 ↔ x < y := by
  unfold cmpI
  split
  · omega
  · split <;> omega
set_option maxHeartbeats 4000000 in
set_option maxRecDepth 100000 in
set_option linter.unusedSimpArgs false in
theorem compare_any (w : World) (x y : Int) : Calls Try.prog 36 #[.int .i64 x, .int .i64 y] w fun e w' => e = .returned (.int .i64 (cmpI x y)) ∧ w = w' := by
  have NA := hide fun w x => isNaN_any w x
  unfold cmpI
  by_cases h1 : x < y
  · rw [if_pos h1]
    go_enter Try.func36, Try.ntmps36
    go_wp2_with fail
    refine Calls.mono (NA.out _ _) ?_
    rintro e W1 ⟨rfl, rfl⟩
    go_wp2_with fail
    refine Calls.mono (NA.out _ _) ?_
    rintro e W1 ⟨rfl, rfl⟩
    go_wp2_with fail
    go_ret
    exact ⟨rfl, rfl⟩
  · rw [if_neg h1]
    by_cases h2 : y < x
    · rw [if_pos h2]
      go_enter Try.func36, Try.ntmps36
      go_wp2_with fail
      refine Calls.mono (NA.out _ _) ?_
      rintro e W1 ⟨rfl, rfl⟩
      go_wp2_with fail
      refine Calls.mono (NA.out _ _) ?_
      rintro e W1 ⟨rfl, rfl⟩
      go_wp2_with fail
      go_ret
      exact ⟨rfl, rfl⟩
    · rw [if_neg h2]
      go_enter Try.func36, Try.ntmps36
      go_wp2_with fail
      refine Calls.mono (NA.out _ _) ?_
      rintro e W1 ⟨rfl, rfl⟩
      go_wp2_with fail
      refine Calls.mono (NA.out _ _) ?_
      rintro e W1 ⟨rfl, rfl⟩
      go_wp2_with fail
      go_ret
      exact ⟨rfl, rfl⟩
set_option maxHeartbeats 8000000 in
set_option maxRecDepth 100000 in
set_option linter.unusedSimpArgs false in
set_option linter.unusedVariables false in
theorem clos_any {w : World} {D M1 M2 : Nat} {L1 L2 : List (Int × Int)} {d : Dt} (h : DtIn w D M1 M2 L1 L2 d) (X : Nat) (hX : w.heap[X]? = some (.cells #[.pointer (some ⟨D, 0, none⟩)] 24)) (x y : Int) (hx0 : -9223372036854775808 ≤ x) (hx1 : x < 9223372036854775808) (hy0 : -9223372036854775808 ≤ y) (hy1 : y < 9223372036854775808) :
    Calls Try.prog 35 #[.int .i64 x, .int .i64 y, .pointer (some ⟨X, 0, none⟩)] w fun e w' => e = .returned (.int .i64 (cmpI (d.till x) (d.till y))) ∧ ∃ q, w' = w.drewN q := by
  have c0 : w.cell? ⟨X, 0, none⟩ = some (.pointer (some ⟨D, 0, none⟩)) := cell_row hX 0
  have HT : Hid (∀ (k : Nat) (z : Int), (z = x ∨ z = y) → Calls Try.prog 33 #[.pointer (some ⟨D, 0, none⟩), .int .i64 z] (w.drewN k) fun e w' => e = .returned (.int .i64 (d.till z)) ∧ w' = w.drewN k) := fun k z hz => Calls.mono (till_any (h.kp ((Kp.refl w non).drewN k) (fun _ _ f => f)) z (by omega) (by omega)) (by rintro e W ⟨rfl, rfl⟩; exact ⟨rfl, rfl⟩)
  have HCc : Hid (∀ (W : World) (a b : Int), Calls Try.prog 36 #[.int .i64 a, .int .i64 b] W fun e w' => e = .returned (.int .i64 (cmpI a b)) ∧ w' = W) := fun W a b => Calls.mono (compare_any W _ _) (by rintro e W ⟨rfl, rfl⟩; exact ⟨rfl, rfl⟩)
  generalize d.till = tl at *
  clear h hX hx0 hx1 hy0 hy1
  go_enter Try.func35, Try.ntmps35
  go_wp2_with fail
  go_quiet (first | (go_at_call 36; refine Calls.quiet_of_same (HCc.out _ _ _)) | (go_at_call 33; refine Calls.quiet_of_same (HT.out _ _ (by first | exact Or.inl rfl | exact Or.inr rfl))))
  go_wp2_with fail
  go_ret
  exact ⟨rfl, nq, rfl⟩
end Go.Proofs.Ytnegdhnmgkpkjaa
namespace Go.Proofs.Ytnegdhnmgkpkjaa
/-- bans end in time -/
def Dt.enb (d : Dt) : Prop := ∀ k, d.en k ≤ d.now + d.ban
/-- the document's order -/
def ordL (d : Dt) (ns : List Int) : List Int := ns.filter (fun x => decide (d.en x ≤ d.now)) ++ (List.range d.ban.toNat).flatMap fun t : Nat => ns.filter (fun x => decide (d.en x = d.now + 1 + (t : Int)))
theorem flat_one {α : Type} (X : List α) (t0 : Int) (now : Int) : ∀ n : Nat, ((List.range n).flatMap fun t : Nat => if t0 = now + 1 + (t : Int) then X else []) = if now < t0 ∧ t0 ≤ now + (n : Int) then X else []
  | 0 => by
    rw [if_neg (by omega)]
    rfl
  | n + 1 => by
    rw [List.range_succ, List.flatMap_append, flat_one X t0 now n]
    simp only [List.flatMap_cons, List.flatMap_nil, List.append_nil]
    by_cases h1 : now < t0 ∧ t0 ≤ now + (n : Int)
    · rw [if_pos h1, if_neg (by omega), if_pos (by omega), List.append_nil]
    · rw [if_neg h1, List.nil_append]
      by_cases h2 : t0 = now + 1 + (n : Int)
      · rw [if_pos h2, if_pos (by omega)]
      · rw [if_neg h2, if_neg (by omega)]
theorem till_le {d : Dt} (h0 : 0 ≤ d.now) (x : Int) : (d.till x = 0 ↔ d.en x ≤ d.now) ∧ (d.now < d.en x → d.till x = d.en x) := by
  unfold Dt.till
  by_cases h : d.now < d.en x
  · rw [if_pos h]; omega
  · rw [if_neg h]; omega
theorem filter_nil_of {l : List Int} {p : Int → Bool} (h : ∀ x ∈ l, p x = false) : l.filter p = [] := List.filter_eq_nil_iff.2 fun x hx => by rw [h x hx]; decide
theorem ord_eqf {d : Dt} (h0 : 0 ≤ d.now) (hb : d.enb) (hb1 : 0 ≤ d.ban) (ns : List Int) : EqF d.till ns (ordL d ns) := fun v => by
  unfold ordL
  rw [List.filter_append, List.filter_flatMap]
  simp only [List.filter_filter]
  by_cases hv : v = 0
  · subst hv
    have e1 : (ns.filter fun x => (d.till x == 0) && decide (d.en x ≤ d.now)) = ns.filter (fun x => d.till x == 0) := by
      apply List.filter_congr
      intro x _
      have := (till_le h0 x).1
      by_cases q : d.en x ≤ d.now
      · simp [q, this.2 q]
      · have : ¬ d.till x = 0 := fun e => q (this.1 e)
        simp [q, this]
    have e2 : ((List.range d.ban.toNat).flatMap fun t : Nat => ns.filter (fun x => (d.till x == 0) && decide (d.en x = d.now + 1 + (t : Int)))) = [] := by
      rw [List.flatMap_eq_nil_iff]
      intro t _
      refine filter_nil_of fun x _ => ?_
      by_cases q : d.en x = d.now + 1 + (t : Int)
      · have := (till_le h0 x).1
        have : ¬ d.till x = 0 := fun e => by have := this.1 e; omega
        simp [this]
      · simp [q]
    rw [e1, e2, List.append_nil]
  · have e1 : (ns.filter fun x => (d.till x == v) && decide (d.en x ≤ d.now)) = [] := by
      refine filter_nil_of fun x _ => ?_
      by_cases q : d.en x ≤ d.now
      · have := (till_le h0 x).1.2 q
        simp [this]
        intro e
        exact absurd e.symm hv
      · simp [q]
    have e2 : (fun t : Nat => ns.filter (fun x => (d.till x == v) && decide (d.en x = d.now + 1 + (t : Int)))) = fun t : Nat => if v = d.now + 1 + (t : Int) then ns.filter (fun x => d.till x == v) else [] := by
      funext t
      by_cases q : v = d.now + 1 + (t : Int)
      · rw [if_pos q]
        apply List.filter_congr
        intro x _
        by_cases r : d.till x = v
        · have : d.en x = v := by
            have := till_le h0 x
            by_cases s : d.en x ≤ d.now
            · have := this.1.2 s; omega
            · have := this.2 (by omega); omega
          simp [r, this, ← q]
        · simp [r]
      · rw [if_neg q]
        refine filter_nil_of fun x _ => ?_
        by_cases r : d.en x = d.now + 1 + (t : Int)
        · have := (till_le h0 x).2 (by omega)
          have : ¬ d.till x = v := by omega
          simp [this]
        · simp [r]
    rw [e1, e2, List.nil_append, flat_one]
    split
    · rfl
    · next q =>
      symm
      symm
      refine filter_nil_of fun x _ => ?_
      have h1 := till_le h0 x
      have h2 := hb x
      have : ¬ d.till x = v := fun e => by
        by_cases s : d.en x ≤ d.now
        · have := h1.1.2 s; omega
        · have := h1.2 (by omega); omega
      simp [this]
theorem pw_flat {d : Dt} (h0 : 0 ≤ d.now) (ns : List Int) : ∀ n : Nat, (((List.range n).flatMap fun t : Nat => ns.filter (fun x => decide (d.en x = d.now + 1 + (t : Int)))).Pairwise fun x y => d.till x ≤ d.till y) ∧ ∀ x ∈ (List.range n).flatMap (fun t : Nat => ns.filter (fun x => decide (d.en x = d.now + 1 + (t : Int)))), d.now < d.till x ∧ d.till x ≤ d.now + (n : Int)
  | 0 => ⟨by simp, by simp⟩
  | n + 1 => by
    obtain ⟨h1, h2⟩ := pw_flat h0 ns n
    have h3 : ∀ x ∈ ns.filter (fun x => decide (d.en x = d.now + 1 + (n : Int))), d.till x = d.now + 1 + (n : Int) := fun x hx => by
      have := (List.mem_filter.1 hx).2
      simp at this
      have := (till_le h0 x).2 (by omega)
      omega
    rw [List.range_succ, List.flatMap_append]
    simp only [List.flatMap_cons, List.flatMap_nil, List.append_nil]
    refine ⟨List.pairwise_append.2 ⟨h1, ?_, fun x hx y hy => ?_⟩, fun x hx => ?_⟩
    · exact List.pairwise_of_forall_mem_list fun x hx y hy => by rw [h3 x hx, h3 y hy]; exact Int.le_refl _
    · have := h2 x hx
      have := h3 y hy
      omega
    · rcases List.mem_append.1 hx with q | q
      · have := h2 x q; omega
      · have := h3 x q; omega
theorem ord_pw {d : Dt} (h0 : 0 ≤ d.now) (ns : List Int) : (ordL d ns).Pairwise fun x y => d.till x ≤ d.till y := by
  have h3 : ∀ x ∈ ns.filter (fun x => decide (d.en x ≤ d.now)), d.till x = 0 := fun x hx => by
    have := (List.mem_filter.1 hx).2
    simp at this
    exact (till_le h0 x).1.2 this
  obtain ⟨h1, h2⟩ := pw_flat h0 ns d.ban.toNat
  refine List.pairwise_append.2 ⟨?_, h1, fun x hx y hy => ?_⟩
  · exact List.pairwise_of_forall_mem_list fun x hx y hy => by rw [h3 x hx, h3 y hy]; exact Int.le_refl _
  · have := h3 x hx
    have := h2 y hy
    omega
theorem ord_unique {d : Dt} (h0 : 0 ≤ d.now) (hb : d.enb) (hb1 : 0 ≤ d.ban) {ns f : List Int} (he : EqF d.till ns f) (hp : f.Pairwise fun x y => d.till x ≤ d.till y) : f = ordL d ns := eqf_unique (K := d.till) (he.symm.trans (ord_eqf h0 hb hb1 ns)) hp (ord_pw h0 ns)
theorem ord_len {d : Dt} (h0 : 0 ≤ d.now) (hb : d.enb) (hb1 : 0 ≤ d.ban) {ns f : List Int} (hl : f.length = ns.length) (he : EqF d.till ns f) (hp : f.Pairwise fun x y => d.till x ≤ d.till y) : (ordL d ns).length = ns.length := by rw [← ord_unique h0 hb hb1 he hp, hl]
theorem enb_does {d : Dt} (h : d.enb) (hf : d.fits) (kd k : Int) : (d.does kd k).enb := by
  intro j
  have h1 := h j
  have h2 := h k
  have h3 := hf.b1
  have h4 := hf.t0
  unfold Dt.does
  split
  · split
    · show upd d.en k 0 j ≤ d.now + d.ban
      unfold upd
      split <;> omega
    · exact h1
  · split
    · split
      · show (if d.lim ≤ d.st k + 1 then upd d.en k (d.now + d.ban) else d.en) j ≤ d.now + d.ban
        split
        · unfold upd
          split <;> omega
        · exact h1
      · exact h1
    · split
      · show d.en j ≤ d.now + (_ : Int) + d.ban
        omega
      · exact h1
end Go.Proofs.Ytnegdhnmgkpkjaa
namespace Go.Proofs.Ytnegdhnmgkpkjaa
open Go.RowKit
theorem made_int (n : Nat) : madeCells (Value.int .i64 0).cells (n * 1) = (ints (List.replicate n 0)).toArray := by
  rw [Nat.mul_one]
  apply Array.ext
  · simp [size_madeCells, ints]
  · intro i h1 h2
    simp [madeCells, Value.cells, ints, Nat.mod_one]
set_option maxHeartbeats 8000000 in
set_option maxRecDepth 100000 in
set_option linter.unusedSimpArgs false in
set_option linter.unusedVariables false in
theorem sortStable_any {w0 w : World} {g : Nat} {d : List Int} (h : Sx w0 w g d) {cb : Value} {Ky : Int → Int} {ok : Int → Prop} {cf : Int → Int → Int} (hc : CmpC w0 g cb Ky ok cf) (ho : OkL ok d) (N : Nat) (hl : d.length = N) (hN : N ≤ 300) :
    Calls Try.prog 34 #[.slice (some ⟨g, 0, none⟩) N N, .func (.func 35) #[] #[cb]] w fun e w' => e = .returned (.tuple #[]) ∧ ∃ f : List Int, Seg Ky d f 0 N ∧ Srt Ky f 0 N ∧ Sx w0 w' g f := by
  have ST := hide (stable_any h hc ho N hl hN)
  clear h hc ho hl
  go_enter Try.func34, Try.ntmps34
  go_wp2_with fail
  refine Calls.mono ST.out ?_
  rintro e W1 ⟨rfl, f, h1, h2, h3⟩
  have H1 := hide h1
  have H2 := hide h2
  have H3 := hide h3
  clear h1 h2 h3
  go_wp2_with fail
  go_end0
  exact ⟨rfl, f, H1.out, H2.out, H3.out⟩
set_option maxHeartbeats 8000000 in
set_option maxRecDepth 100000 in
set_option linter.unusedSimpArgs false in
set_option linter.unusedVariables false in
theorem Order_bad {w : World} {S : Nat → Prop} {D : Nat} {d : Dt} (h : DtAt w S D d) (hf : d.fits) (ao : Option Addr) (b o cap : Nat) (ns : List Int) (hs : IsAt w ao b o ns) (hin : ¬ ∀ x ∈ ns, 0 ≤ x ∧ x < (d.n : Int)) :
    Calls Try.prog 20 #[.pointer (some ⟨D, 0, none⟩), .slice ao ns.length cap] w fun e w' => e = .returned (.tuple #[.slice none 0 0, .int .i64 68]) ∧ Below w.heap.size w w' := by
  obtain ⟨M1, M2, L1, L2, hi, hS⟩ := h
  obtain ⟨W0, hW0⟩ : ∃ W0, W0 = w.alloc (.cells #[.pointer (some ⟨D, 0, none⟩)] 24) := ⟨_, rfl⟩
  have hb : Below w.heap.size w W0 := by rw [hW0]; exact (Below.refl _ _).alloc (Nat.le_refl _) _
  have hx : W0.heap[w.heap.size]? = some (.cells #[.pointer (some ⟨D, 0, none⟩)] 24) := by rw [hW0]; exact heap_last _ _
  have c0 : W0.cell? ⟨w.heap.size, 0, none⟩ = some (.pointer (some ⟨D, 0, none⟩)) := cell_row hx 0
  have k0 := Kp.of_below hb non
  have CH := check_any (hi.kp k0 (fun _ _ f => f)).blk hf.n1 ao b o cap ns (hs.kp k0 (fun _ f => f))
  rw [chkE_bad hin] at CH
  have CH := hide CH
  have HB := hide hb
  clear hi hS hs hb hx k0 hin
  go_enter Try.func20, Try.ntmps20
  go_wp2_with fail
  rw [← hW0]
  clear hW0
  refine Calls.mono CH.out ?_
  rintro e W1 ⟨rfl, rfl⟩
  go_wp2_with fail
  go_ret2
  exact ⟨rfl, HB.out⟩
set_option maxHeartbeats 8000000 in
set_option maxRecDepth 100000 in
set_option linter.unusedSimpArgs false in
set_option linter.unusedVariables false in
theorem Order_any {w : World} {S : Nat → Prop} {D : Nat} {d : Dt} (h : DtAt w S D d) (hf : d.fits) (he : d.enb) (ao : Option Addr) (b o cap : Nat) (ns : List Int) (hs : IsAt w ao b o ns) (hin : ∀ x ∈ ns, 0 ≤ x ∧ x < (d.n : Int)) (hl : ns.length ≤ 300) :
    Calls Try.prog 20 #[.pointer (some ⟨D, 0, none⟩), .slice ao ns.length cap] w fun e w' => ∃ g, e = .returned (.tuple #[.slice (some ⟨g, 0, none⟩) ns.length ns.length, .int .i64 0]) ∧ Rw w' g (ordL d ns) ∧ (ordL d ns).length = ns.length ∧ w.heap.size ≤ g ∧ Below w.heap.size w w' := by
  obtain ⟨M1, M2, L1, L2, hi, hS⟩ := h
  obtain ⟨N, hN⟩ : ∃ N, N = ns.length := ⟨_, rfl⟩
  obtain ⟨X, hX⟩ : ∃ X, X = w.heap.size := ⟨_, rfl⟩
  obtain ⟨W0, hW0⟩ : ∃ W0, W0 = w.alloc (.cells #[.pointer (some ⟨D, 0, none⟩)] 24) := ⟨_, rfl⟩
  have hb : Below w.heap.size w W0 := by rw [hW0]; exact (Below.refl _ _).alloc (Nat.le_refl _) _
  have hx : W0.heap[X]? = some (.cells #[.pointer (some ⟨D, 0, none⟩)] 24) := by rw [hW0, hX]; exact heap_last _ _
  have c0 : W0.cell? ⟨X, 0, none⟩ = some (.pointer (some ⟨D, 0, none⟩)) := cell_row hx 0
  have k0 := Kp.of_below hb non
  have hi0 := hi.kp k0 (fun _ _ f => f)
  have hs0 := hs.kp k0 (fun _ f => f)
  have CH := check_any hi0.blk hf.n1 ao b o cap ns hs0
  rw [chkE_ok hin] at CH
  obtain ⟨i0, hio, hz0, hz1, hz2⟩ := info_parts int_infos
  obtain ⟨W1, hW1⟩ : ∃ W1, W1 = W0.alloc (.cells (ints (List.replicate N 0)).toArray 3) := ⟨_, rfl⟩
  have hmk : (Instr.makeSlice 38 (.int .i64 (N : Int)) (.int .i64 (N : Int))).run Try.prog W0 = .ok (.slice (some ⟨W0.heap.size, 0, none⟩) N N) W1 := by
    have h := run_make (P := Try.prog) W0 38 3 i0 _ Try.underlying38 hio hz0 .i64 .i64 (N : Int) (N : Int) (by omega) (by omega) (by rw [hz2]; omega) (by omega)
    rw [hz1, Int.toNat_natCast, made_int, ← hW1] at h
    exact h
  have b1 : Below W0.heap.size W0 W1 := by rw [hW1]; exact (Below.refl _ W0).alloc (Nat.le_refl _) _
  have hg1 : W1.heap[W0.heap.size]? = some (.cells (ints (List.replicate N 0)).toArray 3) := by rw [hW1]; exact heap_last _ _
  have hs1 := hs0.kp (Kp.of_below b1 non) (fun _ f => f)
  obtain ⟨g, hg⟩ : ∃ g, g = W0.heap.size := ⟨_, rfl⟩
  rw [← hg] at hmk hg1
  have hgw : w.heap.size ≤ g := by rw [hg]; exact hb.size
  have hXg : X < g := by rw [hg]; exact blk_lt hx
  have hcp : ∀ ty, ∃ W2, (Builtin.copy_ #[38, 38] ty #[.slice (some ⟨g, 0, none⟩) N N, .slice ao N cap]).run Try.prog W1 = .ok (.int .i64 (N : Int)) W2 ∧ Rw W2 g ns ∧ Kp W1 W2 (fun k => k = g) := fun ty => by
    by_cases h0 : N = 0
    · have := run_copy_none (P := Try.prog) W1 38 38 ty 3 (some ⟨g, 0, none⟩) ao N N N cap Try.underlying38 (by kernel_rfl) (by rw [h0]; rfl)
      refine ⟨W1, by rw [this, h0]; rfl, ?_, Kp.refl _ _⟩
      have : ns = [] := List.length_eq_zero_iff.1 (by omega)
      unfold Rw
      rw [hg1, h0, this]
      rfl
    · obtain rfl := hs1.at0 (by omega)
      have hrun := run_copy_row (P := Try.prog) W1 38 38 ty 3 g 0 N N ⟨b, o, none⟩ N cap _ 3 (ints ns) Try.underlying38 (by kernel_rfl) hg1 (by rw [ints_len, ← hN]; exact (Nat.min_self _).symm) (fun j v hj => by
        rw [Addr.add_mid]
        have hj' : j < ns.length := by
          have := (List.getElem?_eq_some_iff.1 hj).1
          rwa [ints_len] at this
        rw [hs1.cell j hj', ← hj, ints_at, List.getElem?_eq_getElem hj']
        rfl) (by simp [ints_len, hN]) (ints_one ns)
      refine ⟨_, by rw [hrun, ints_len, ← hN]; rfl, ?_, ?_⟩
      · unfold Rw
        rw [setRow_heap _ _ _ _ 3 (0, 0) hg1, List.take_zero, List.nil_append, List.drop_of_length_le (by simp [ints_len, hN]), List.append_nil]
      · exact ⟨rfl, rfl, rfl, by simp [World.setRow], fun k _ hs => setRow_other _ _ k _ hs⟩
  obtain ⟨W2, hr2, hw2, hk2⟩ := hcp 3
  have k2 : Kp w W2 (fun k => k = g) := ((k0.trans (Kp.of_below b1 non) (fun _ f => f.elim)).mono (fun _ f => f.elim)).trans hk2 (fun _ e => Or.inl e)
  have hi2 : DtIn W2 D M1 M2 L1 L2 d := hi.kp k2 (fun k hk e => by
    have : k < w.heap.size := by
      rcases hk with rfl | rfl | rfl
      · exact blk_lt hi.blk
      · exact hi.m1.lt
      · exact hi.m2.lt
    omega)
  have hx2 : W2.heap[X]? = some (.cells #[.pointer (some ⟨D, 0, none⟩)] 24) := (hk2.block X (Nat.lt_of_lt_of_le (blk_lt hx) b1.size) (by omega)).trans ((b1.block X (blk_lt hx)).trans hx)
  have HCm : CmpC W2 g (.pointer (some ⟨X, 0, none⟩)) d.till (fun x => -9223372036854775808 ≤ x ∧ x < 9223372036854775808) (fun x y => cmpI (d.till x) (d.till y)) := by
    refine ⟨fun W hW x y ox oy => ?_, fun x y => cmpI_lt _ _⟩
    refine clos_any (hi2.kp hW (fun k hk e => ?_)) X ((hW.block X (blk_lt hx2) (by omega)).trans hx2) x y ox.1 ox.2 oy.1 oy.2
    have : k < w.heap.size := by
      rcases hk with rfl | rfl | rfl
      · exact blk_lt hi.blk
      · exact hi.m1.lt
      · exact hi.m2.lt
    omega
  have hn16 := hf.n16
  have SO := hide (sortStable_any (w0 := W2) (w := W2) ⟨hw2, Kp.refl _ _⟩ HCm (fun x hx => by have := hin x hx; omega) N hN.symm (by omega))
  have HFIN : Hid (∀ (W : World) (f : List Int), Seg d.till ns f 0 N → Srt d.till f 0 N → Sx W2 W g f → Rw W g (ordL d ns) ∧ (ordL d ns).length = N ∧ Below w.heap.size w W) := fun W f h1 h2 h3 => by
    have hp : f.Pairwise fun x y => d.till x ≤ d.till y := srt_pairwise (by rw [h1.len, ← hN]; exact h2)
    have e := ord_unique hf.t0 he (by have := hf.b1; omega) h1.eqf hp
    rw [← e]
    refine ⟨h3.row, by rw [h1.len, hN], ?_⟩
    have : Kp w W non := (k2.trans h3.kp (fun _ q => Or.inl q)).trans (Kp.refl W non) (fun _ q => q.elim) |> fun kk => ⟨kk.os, kk.tape, kk.output, kk.size, fun k hk _ => kk.block k hk (by omega)⟩
    exact this.below
  have HGW := hide hgw
  rw [← hN]
  rw [← hN] at CH
  have CH := hide CH
  clear hi hS hb hx k0 hi0 hs0 hs1 hg1 b1 hW1 hz0 hz1 hz2 hio hw2 hk2 k2 hi2 hx2 HCm hin hs hN hcp hXg hgw hg he
  go_enter Try.func20, Try.ntmps20
  go_wp2_with fail
  rw [← hW0, ← hX]
  clear hW0 hX
  refine Calls.mono CH.out ?_
  rintro e W9 ⟨rfl, rfl⟩
  go_wp2_with fail
  refine Calls.mono SO.out ?_
  rintro e W3 ⟨rfl, f, h1, h2, h3⟩
  obtain ⟨z1, z2, z3⟩ := HFIN.out W3 f h1 h2 h3
  have Z1 := hide z1
  have Z2 := hide z2
  have Z3 := hide z3
  clear h1 h2 h3 z1 z2 z3
  go_wp2_with fail
  go_ret2
  exact ⟨g, rfl, Z1.out, Z2.out, HGW.out, Z3.out⟩
end Go.Proofs.Ytnegdhnmgkpkjaa
namespace Go.Proofs.Ytnegdhnmgkpkjaa
open Go.RowKit
/-- append(list, k) -/
theorem wpList_apI {w : World} {ops : Array Oper} {rest : List Oper} {o : Oper} {a : Act} {Q : Exit → Act → World → Prop} (hgd : o.guard = none) (x y : Operand) (ho : o.op = .call { callee := .builtin .append, args := #[x, y], argTypes := #[38, 38] }) (base : Nat) (v : Value) (n : Nat) (L : List Int) (hx : a.eval x = v) (hv : w.ownsRow base 3 1 v n (ints L)) (g : Nat) (m : Int) (hy : a.eval y = .slice (some ⟨g, 0, none⟩) 1 1) (hg : w.heap[g]? = some (.cells #[.int .i64 m] 3)) (hl : n ≤ 1000000000000) (hb : base ≤ w.heap.size)
    (h : ∀ v' w', w'.ownsRow base 3 1 v' (n + 1) (ints (L ++ [m])) → w.grownBy w' v.ownBlock → (v'.ownBlock = v.ownBlock ∨ v'.ownBlock = some w.heap.size) → wpList Try.prog ops Q rest (a.put o.dst v') w') : wpList Try.prog ops Q (o :: rest) a w := by
  obtain ⟨i0, hi, hz0, hz1, hz2⟩ := info_parts int_infos
  refine wpList_append_own_at _ hgd _ _ 38 ho base 3 i0 _ 1 8 Try.underlying38 hi hz0 hz1 hz2 rfl (by decide) _ _ _ hx hv ⟨g, 0, none⟩ 1 1 (ints [m]) hy rfl ?_ (ints_one _) (by unfold maxLen; omega) (by omega) hb ?_
  · intro j u hj
    rw [Addr.add_mid, Nat.zero_add, cell_row hg]
    simpa [ints] using hj
  · intro v' w' h1 h2 _ h4
    rw [← ints_append] at h1
    exact h v' w' h1 h2 h4
theorem own_is {w : World} {base n : Nat} {v : Value} {L : List Int} (h : w.ownsRow base 3 1 v n (ints L)) (hl : L.length ≤ 1000000) : n = L.length ∧ ∃ ao b cap, v = .slice ao L.length cap ∧ IsAt w ao b 0 L ∧ ∀ k, v.ownBlock = some k → k = b := by
  have hn : n = L.length := by
    have := h.1
    rw [ints_len] at this
    omega
  subst hn
  refine ⟨rfl, ?_⟩
  rcases h.2 with ⟨hv, hz⟩ | ⟨g, cap, cur, rfl, h1, h2, h3, h4, h5, h6⟩
  · refine ⟨none, 0, 0, by rw [hv, hz], ⟨fun q => by omega, fun i hi => by omega, by omega⟩, fun k hk => by rw [hv] at hk; simp [Value.ownBlock] at hk⟩
  · refine ⟨some ⟨g, 0, none⟩, g, cap, rfl, ⟨fun _ => rfl, fun i hi => ?_, by omega⟩, fun k hk => by simp [Value.ownBlock] at hk; exact hk.symm⟩
    have hj : (ints L)[i]? = some (.int .i64 L[i]) := by rw [ints_at, List.getElem?_eq_getElem hi]; rfl
    obtain ⟨g', cap', e, c1, _⟩ := own_at h hj
    injection e with e1 e2 e3
    injection e1 with e1
    injection e1 with e1
    subst e1
    rw [Nat.zero_add]
    exact c1
theorem Rw.is {w : World} {g : Nat} {d : List Int} (h : Rw w g d) (hl : d.length ≤ 1000000) : IsAt w (some ⟨g, 0, none⟩) g 0 d :=
  ⟨fun _ => rfl, fun i hi => by rw [Nat.zero_add, h.cell hi, atL_get hi], by omega⟩
theorem Rw.kp {w w' : World} {g : Nat} {d : List Int} (h : Rw w g d) {S : Nat → Prop} (hk : Kp w w' S) (hS : ¬ S g) : Rw w' g d := (hk.block g (blk_lt h) hS).trans h
/-- what is copied -/
def tk (ns : List Int) : List Int := ns.take 200
theorem tk_len (ns : List Int) : (tk ns).length ≤ 200 := by unfold tk; rw [List.length_take]; omega
set_option maxHeartbeats 8000000 in
set_option maxRecDepth 100000 in
set_option linter.unusedSimpArgs false in
set_option linter.unusedVariables false in
theorem copied_any {w : World} (ao : Option Addr) (b o cap : Nat) (ns : List Int) (hs : IsAt w ao b o ns) :
    Calls Try.prog 21 #[.slice ao ns.length cap] w fun e w' => ∃ v, e = .returned v ∧ w'.ownsRow w.heap.size 3 1 v (tk ns).length (ints (tk ns)) ∧ Below w.heap.size w w' := by
  have HS := hide hs
  have hlen := hs.len
  clear hs
  go_enter Try.func21, Try.ntmps21
  go_wp2_with fail
  go_loopw [3, 4] (fun vl vi wr => ∃ (i : Nat), i ≤ ns.length ∧ i ≤ 200 ∧ vi = .int .i64 (i : Int) ∧ Hid (wr.ownsRow w.heap.size 3 1 vl i (ints (ns.take i))) ∧ Hid (Below w.heap.size w wr)) (fun _ vi _ => 200 - (intOf vi).toNat)
  case atStart => exact ⟨0, Nat.zero_le _, Nat.zero_le _, rfl, World.ownsRow_nil _ _ _ _, Below.refl _ _⟩
  case round =>
    obtain ⟨i, hi, hi2, rfl, HO, HB⟩ := hrel
    have fin : Hid (¬ (i < ns.length ∧ i < 200) → tk ns = ns.take i ∧ (tk ns).length = i) := fun q => by
      unfold tk
      by_cases h : i = 200
      · subst h
        exact ⟨rfl, by rw [List.length_take]; omega⟩
      · have : i = ns.length := by omega
        rw [List.take_of_length_le (by omega), List.take_of_length_le (by omega)]
        exact ⟨rfl, this.symm⟩
    by_cases h1 : i < ns.length
    · by_cases h2 : i < 200
      · have q1 : (i : Int) < (ns.length : Int) := by omega
        have q2 : (i : Int) < 200 := by omega
        have c1 := (HS.out.kp (Kp.of_below HB.out non) (fun _ f => f)).cell i h1
        obtain rfl := HS.out.at0 (by omega)
        have HT : Hid (ns.take (i + 1) = ns.take i ++ [ns[i]]) := List.take_succ_eq_append_getElem h1
        generalize ns[i] = x at *
        obtain ⟨W1, hW1⟩ : ∃ W1, W1 = wr.alloc (.cells #[.int .i64 x] 3) := ⟨_, rfl⟩
        have hb1 : Below wr.heap.size wr W1 := by rw [hW1]; exact (Below.refl _ _).alloc (Nat.le_refl _) _
        have gg : W1.heap[wr.heap.size]? = some (.cells #[.int .i64 x] 3) := by rw [hW1]; exact heap_last _ _
        have HO1 := hide (own_kp HO.out (Kp.of_below hb1 non) (fun _ _ f => f))
        have HGG := hide gg
        have hsz : w.heap.size ≤ W1.heap.size := Nat.le_trans HB.out.size hb1.size
        have K1 := hide ((Kp.of_below HB.out non).trans (Kp.of_below hb1 non) (fun _ f => f.elim))
        clear gg hb1
        go_wp2_with (at_builtin; rw [← hW1]; refine wpList_apI rfl (.tmp 15) (.tmp 20) rfl w.heap.size _ i (ns.take i) rfl HO1.out wr.heap.size x rfl HGG.out (by omega) hsz ?_; intro v' w' o2 g2 _; have HO2 := hide o2; have K2 : Hid (Kp w w' non) := (K1.out.trans (Kp.of_grown g2) (fun k hk => Or.inr (own_ge HO1.out hk.symm))); clear o2 g2)
        go_roundw
        case rel => exact ⟨i + 1, by omega, by omega, by go_num, by rw [HT.out]; exact HO2, K2.out.below⟩
        case measure => simp [intOf]; omega
      · have q1 : (i : Int) < (ns.length : Int) := by omega
        have q2 : ¬ (i : Int) < 200 := by omega
        have FN := hide (fin.out (fun q => h2 q.2))
        go_wp2_with fail
        go_ret
        exact ⟨_, rfl, by rw [FN.out.2, FN.out.1]; exact HO.out, HB.out⟩
    · have q1 : ¬ (i : Int) < (ns.length : Int) := by omega
      have FN := hide (fin.out (fun q => h1 q.1))
      go_wp2_with fail
      go_ret
      exact ⟨_, rfl, by rw [FN.out.2, FN.out.1]; exact HO.out, HB.out⟩
theorem eq_prefix {xs ys : List Int} {i : Nat} (hp : xs.take i = ys.take i) (h : i < xs.length) (h2 : i < ys.length) (e : xs[i] = ys[i]) : xs.take (i + 1) = ys.take (i + 1) := by
  rw [List.take_succ_eq_append_getElem h, List.take_succ_eq_append_getElem h2, hp, e]
set_option maxHeartbeats 8000000 in
set_option maxRecDepth 100000 in
set_option linter.unusedSimpArgs false in
set_option linter.unusedVariables false in
theorem same_any {w : World} (ao : Option Addr) (b o cap : Nat) (xs : List Int) (hx : IsAt w ao b o xs) (ao' : Option Addr) (b' o' cap' : Nat) (ys : List Int) (hy : IsAt w ao' b' o' ys) :
    Calls Try.prog 22 #[.slice ao xs.length cap, .slice ao' ys.length cap'] w fun e w' => e = .returned (.bool (decide (xs = ys))) ∧ Below w.heap.size w w' := by
  have HX := hide hx
  have HY := hide hy
  have l1 := hx.len
  have l2 := hy.len
  clear hx hy
  obtain ⟨bv, hbv⟩ : ∃ bv, bv = decide (xs = ys) := ⟨_, rfl⟩
  rw [← hbv]
  have HBV := hide hbv
  clear hbv
  by_cases hl : xs.length = ys.length
  · have HL := hide hl
    obtain ⟨N, hN⟩ : ∃ N, N = xs.length := ⟨_, rfl⟩
    rw [← hN] at l1
    rw [← hl, ← hN]
    have HN := hide hN
    clear hl hN l2
    go_enter Try.func22, Try.ntmps22
    go_wp2_with fail
    go_loopw [5] (fun vi wr => ∃ (i q : Nat), wr = w.drewN q ∧ i ≤ N ∧ vi = .int .i64 (i : Int) ∧ Hid (xs.take i = ys.take i)) (fun vi _ => N - (intOf vi).toNat)
    case atStart => exact ⟨0, 0, rfl, Nat.zero_le _, rfl, rfl⟩
    case round =>
      obtain ⟨i, q, hw, hi, rfl, HP⟩ := hrel
      have HWr := hide hw
      by_cases h1 : i < N
      · have q1 : (i : Int) < (N : Int) := by omega
        have z1 : i < xs.length := by rw [← HN.out]; exact h1
        have z2 : i < ys.length := by rw [← HL.out]; exact z1
        have c1 : wr.cell? ⟨b, o + i, none⟩ = some (.int .i64 xs[i]) := by rw [hw]; exact HX.out.cell i z1
        have c2 : wr.cell? ⟨b', o' + i, none⟩ = some (.int .i64 ys[i]) := by rw [hw]; exact HY.out.cell i z2
        obtain rfl := HX.out.at0 (by omega)
        obtain rfl := HY.out.at0 (by omega)
        have HE : Hid (xs[i] = ys[i] → xs.take (i + 1) = ys.take (i + 1)) := eq_prefix HP.out z1 z2
        have HNe : Hid (xs[i] ≠ ys[i] → decide (xs = ys) = false) := fun k => decide_eq_false (fun e => k (by subst e; rfl))
        generalize xs[i] = x at *
        generalize ys[i] = y at *
        clear hw z1 z2
        by_cases hxy : x = y
        · subst hxy
          have HF := hide (HE.out rfl)
          go_wp2_with fail
          go_quiet (fail)
          have HW2 : Hid (wr.drewN nq = w.drewN (q + nq)) := by show _ = _; rw [HWr.out, World.drewN_drewN]
          clear c1 c2 HE HNe HWr
          generalize wr.drewN nq = wq at *
          go_wp2_with fail
          go_roundw
          case rel => exact ⟨i + 1, q + nq, HW2.out, by omega, by go_num, HF⟩
          case measure => simp [intOf]; omega
        · have q2 : (x == y) = false := by simpa using hxy
          have q3 : (x != y) = true := by simpa using hxy
          obtain rfl : bv = false := HBV.out.trans (HNe.out hxy)
          go_wp2_with fail
          go_quiet (fail)
          have HW2 : Hid (wr.drewN nq = w.drewN (q + nq)) := by show _ = _; rw [HWr.out, World.drewN_drewN]
          clear c1 c2 HE HNe HWr
          generalize wr.drewN nq = wq at *
          go_wp2_with fail
          go_ret
          exact ⟨rfl, by rw [HW2.out]; exact ⟨rfl, rfl, rfl, Nat.le_refl _, fun _ _ => rfl⟩⟩
      · have q1 : ¬ (i : Int) < (N : Int) := by omega
        have HF : decide (xs = ys) = true := decide_eq_true (by
          have := HP.out
          rwa [List.take_of_length_le (by rw [← HN.out]; omega), List.take_of_length_le (by rw [← HL.out, ← HN.out]; omega)] at this)
        obtain rfl : bv = true := HBV.out.trans HF
        clear HF hw
        go_wp2_with fail
        go_ret
        exact ⟨rfl, by rw [HWr.out]; exact ⟨rfl, rfl, rfl, Nat.le_refl _, fun _ _ => rfl⟩⟩
  · have HF : decide (xs = ys) = false := decide_eq_false (fun e => hl (by rw [e]))
    obtain rfl : bv = false := HBV.out.trans HF
    have q1 : ((xs.length : Int) == (ys.length : Int)) = false := by simp; omega
    have q2 : ((xs.length : Int) != (ys.length : Int)) = true := by simp; omega
    clear HF hl
    go_enter Try.func22, Try.ntmps22
    go_wp2_with fail
    go_ret
    exact ⟨rfl, Below.refl _ _⟩
set_option maxHeartbeats 8000000 in
set_option maxRecDepth 100000 in
set_option linter.unusedSimpArgs false in
set_option linter.unusedVariables false in
theorem count_any {w : World} (ao : Option Addr) (b o cap : Nat) (xs : List Int) (hx : IsAt w ao b o xs) (x : Int) :
    Calls Try.prog 37 #[.slice ao xs.length cap, .int .i64 x] w fun e w' => e = .returned (.int .i64 ((xs.count x : Nat) : Int)) ∧ w = w' := by
  have HX := hide hx
  have l1 := hx.len
  clear hx
  go_enter Try.func37, Try.ntmps37
  go_wp2_with fail
  go_loopw [5, 6] (fun vn vi wr => ∃ (i n : Nat), w = wr ∧ i ≤ xs.length ∧ n ≤ i ∧ vn = .int .i64 (n : Int) ∧ vi = .int .i64 (i : Int) ∧ Hid (n = (xs.take i).count x)) (fun _ vi _ => xs.length - (intOf vi).toNat)
  case atStart => exact ⟨0, 0, rfl, Nat.zero_le _, Nat.zero_le _, rfl, rfl, rfl⟩
  case round =>
    obtain ⟨i, n, rfl, hi, hn, rfl, rfl, HP⟩ := hrel
    by_cases h1 : i < xs.length
    · have q1 : (i : Int) < (xs.length : Int) := by omega
      have c1 := HX.out.cell i h1
      obtain rfl := HX.out.at0 (by omega)
      have HT : Hid ((xs.take (i + 1)).count x = (xs.take i).count x + if xs[i] = x then 1 else 0) := by
        show _ = _
        rw [List.take_succ_eq_append_getElem h1, List.count_append]
        by_cases e : xs[i] = x
        · rw [if_pos e, e]; simp
        · rw [if_neg e]; simp [List.count_cons, e]
      generalize xs[i] = y at *
      by_cases e : y = x
      · subst e
        go_wp2_with fail
        go_roundw
        case rel => exact ⟨i + 1, n + 1, by first | trivial | rfl, by omega, by omega, by go_num, by go_num, by rw [HT.out, if_pos rfl, HP.out]; rfl⟩
        case measure => simp [intOf]; omega
      · have q2 : (y == x) = false := by simpa using e
        have HE := hide e
        clear e
        go_wp2_with fail
        go_roundw
        case rel => exact ⟨i + 1, n, by first | trivial | rfl, by omega, by omega, rfl, by go_num, by rw [HT.out, if_neg HE.out, HP.out]; rfl⟩
        case measure => simp [intOf]; omega
    · have q1 : ¬ (i : Int) < (xs.length : Int) := by omega
      go_wp2_with fail
      go_ret
      refine ⟨?_, rfl⟩
      have : n = xs.count x := by rw [HP.out, List.take_of_length_le (by omega)]
      rw [← this]
      rfl
end Go.Proofs.Ytnegdhnmgkpkjaa
