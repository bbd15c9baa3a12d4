import Derived.Test.YtjibhdcnibgegaaRzPlain
namespace Go.Proofs.Ytjibhdcnibgegaa
open Go.RowKit
/-- what a search says -/
def FoundAt (n : Nat) (ks : Nat → ByteArray) (x : ByteArray) (i : Nat) (f : Bool) : Prop := (f = true → i < n ∧ ks i = x) ∧ (f = false → ∀ t, t < n → ks t ≠ x)
def BsSays (n : Nat) (ks : Nat → ByteArray) (x : ByteArray) (e : Ending) : Prop := ∃ (i : Nat) (f : Bool), e = .returned (.tuple #[.int .i64 (i : Int), .bool f]) ∧ FoundAt n ks x i f
theorem found_no {n : Nat} {ks : Nat → ByteArray} {x : ByteArray} {i : Nat} (h : ∀ t, t < n → ks t ≠ x) : FoundAt n ks x i false := ⟨fun k => Bool.noConfusion k, fun _ => h⟩
theorem found_yes {n : Nat} {ks : Nat → ByteArray} {x : ByteArray} {i : Nat} (h : i < n) (e : ks i = x) : FoundAt n ks x i true := ⟨fun _ => ⟨h, e⟩, fun k => Bool.noConfusion k⟩
def cmpI (k x : ByteArray) : Int := if k = x then 0 else if lessS k x then -1 else 1
theorem cmpI_zero {k x : ByteArray} : cmpI k x = 0 ↔ k = x := by
  unfold cmpI
  by_cases h : k = x
  · simp [h]
  · rw [if_neg h]
    constructor
    · intro e; split at e <;> omega
    · intro e; exact absurd e h
theorem cmpI_neg {k x : ByteArray} : cmpI k x < 0 ↔ lessS k x = true := by
  unfold cmpI
  by_cases h : k = x
  · subst h; simp [lessS_irrefl]
  · rw [if_neg h]
    by_cases h2 : lessS k x = true
    · simp [h2]
    · simp only [Bool.not_eq_true] at h2; simp [h2]
set_option maxHeartbeats 1000000 in
set_option maxRecDepth 100000 in
set_option linter.unusedSimpArgs false in
/-- the closure of find, of pairs -/
theorem cmpP_any (k v x : ByteArray) (T : Nat) (w : World) (hT : w.cell? ⟨T, 0, none⟩ = some (.func (.func 51) #[] #[])) (hlt : T < w.heap.size) :
    Calls Try.prog 64 #[.agg #[.string k, .string v], .string x, .pointer (some ⟨T, 0, none⟩)] w fun e w' => e = .returned (.int .i64 (cmpI k x)) ∧ Below w.heap.size w w' := by
  have CM : Hid (∀ w', Calls Try.prog 62 #[.string k, .string x] w' fun e w'' => e = .returned (.int .i64 (cmpI k x)) ∧ w' = w'') := fun w' => compare_any k x w'
  generalize cmpI k x = Z at *
  go_enter Try.func64, Try.ntmps64
  go_wp2_with fail
  refine Calls.mono (pairKey_any _ _ _) ?_
  rintro e w1 ⟨rfl, hb1⟩
  have B1 := hide (((Below.refl w.heap.size w).alloc (Nat.le_refl _) (.cells #[.string k, .string v] 81)).trans (hb1.mono (by simp)))
  clear hb1
  go_wp2_with fail
  refine Calls.mono (CM.out _) ?_
  rintro e w2 ⟨rfl, rfl⟩
  go_wp2
  go_ret
  exact ⟨rfl, B1.out⟩
set_option maxHeartbeats 2000000 in
set_option maxRecDepth 100000 in
set_option linter.unusedSimpArgs false in
/-- slices.BinarySearchFunc, of pairs by their keys -/
theorem bsP_any (ao : Option Addr) (b off cap : Nat) (ps : List KV) (x : ByteArray) (T : Nat) (w : World) (hao : 0 < ps.length → ao = some ⟨b, off, none⟩) (hb : 0 < ps.length → b < w.heap.size) (hl : LiesP b off w ps) (hlen : ps.length ≤ 1048576) (hr : Rises ps.length (fun i => (ps.getD i default).1))
    (hT : w.cell? ⟨T, 0, none⟩ = some (.func (.func 51) #[] #[])) (hlt : T < w.heap.size) :
    Calls Try.prog 63 #[.slice ao ps.length cap, .string x, .func (.func 64) #[] #[.pointer (some ⟨T, 0, none⟩)]] w
      fun e w' => BsSays ps.length (fun t => (ps.getD t default).1) x e ∧ Below w.heap.size w w' := by
  have HL := hide hl
  have HR := hide hr
  have CMP : Hid (∀ t, t < ps.length → ∀ w', Below w.heap.size w w' → Calls Try.prog 64 #[.agg #[.string (ps.getD t default).1, .string (ps.getD t default).2], .string x, .pointer (some ⟨T, 0, none⟩)] w' fun e w'' => e = .returned (.int .i64 (cmpI (ps.getD t default).1 x)) ∧ Below w'.heap.size w' w'') := fun t _ w' hw => cmpP_any _ _ _ T w' (by rw [hw.cell (by exact hlt)]; exact hT) (Nat.lt_of_lt_of_le hlt hw.size)
  clear hl hr hT
  go_enter Try.func63, Try.ntmps63
  go_wp2_with fail
  go_loopw [9, 10] (fun i j wr => ∃ lo hi : Nat, i = .int .i64 (lo : Int) ∧ j = .int .i64 (hi : Int) ∧ lo ≤ hi ∧ hi ≤ ps.length ∧ (∀ t, t < lo → lessS (ps.getD t default).1 x = true) ∧ (∀ t, hi ≤ t → t < ps.length → lessS (ps.getD t default).1 x = false) ∧ Below w.heap.size w wr)
    (fun i j _ => (intOf j - intOf i).toNat)
  case atStart => exact ⟨0, ps.length, rfl, rfl, Nat.zero_le _, Nat.le_refl _, fun t ht => by omega, fun t h1 h2 => by omega, Below.refl _ _⟩
  case round =>
    obtain ⟨lo, hi, rfl, rfl, h1, h2, hlo, hhi, hnx⟩ := hrel
    have HLO := hide hlo
    have HHI := hide hhi
    have HNX := hide hnx
    clear hlo hhi
    by_cases hc : lo < hi
    · obtain ⟨m, hm⟩ : ∃ m, m = (lo + hi) / 2 := ⟨_, rfl⟩
      have hm1 : lo ≤ m := by omega
      have hm2 : m < hi := by omega
      have hml : m < ps.length := by omega
      obtain rfl := hao (by omega)
      have hb' := hb (by omega)
      obtain ⟨g0, g1⟩ := HL.out.below hb' hnx m hml
      rw [← getD_at hml] at g0 g1
      have hu : IntKind.u64.wrap ((lo : Int) + (hi : Int)) = (lo : Int) + (hi : Int) := by simp [IntKind.wrap, IntKind.signed, IntKind.bits]; omega
      have hh : ((lo : Int) + (hi : Int)) / 2 = (m : Int) := by omega
      have hmi : (m : Int) < (ps.length : Int) := by omega
      have C1 := hide (CMP.out m hml wr hnx)
      have UP := hide (search_up HR.out (x := x) hml)
      have DN := hide (search_down HR.out (x := x) (m := m))
      have HM := hide hm
      have hcl : (lo : Int) < (hi : Int) := by omega
      clear hm hnx
      generalize hK : (ps.getD m default).1 = K1 at *
      generalize (ps.getD m default).2 = V1 at *
      have HK := hide hK
      clear hK
      have hsz := HNX.out.size
      go_wp2_with fail
      refine Calls.mono C1.out ?_
      rintro e w1 ⟨rfl, hb1⟩
      have B1 := hide (HNX.out.trans (hb1.mono hsz))
      clear hb1
      by_cases hz : cmpI K1 x < 0
      · have hls := cmpI_neg.1 hz
        have HUP : Hid (∀ t, t ≤ m → lessS (ps.getD t default).1 x = true) := UP.out hls
        clear hls
        go_wp2_with fail
        go_roundw
        case rel =>
          refine ⟨m + 1, hi, by go_num, rfl, by omega, h2, fun t ht => HUP.out t (by omega), HHI.out, B1.out⟩
        case measure => simp [intOf]; omega
      · have hls : lessS K1 x = false := by
          cases hq : lessS K1 x with
          | false => rfl
          | true => exact absurd (cmpI_neg.2 hq) hz
        have HDN : Hid (∀ t, m ≤ t → t < ps.length → lessS (ps.getD t default).1 x = false) := DN.out hls
        clear hls
        go_wp2_with fail
        go_roundw
        case rel =>
          refine ⟨lo, m, rfl, rfl, hm1, by omega, HLO.out, HDN.out, B1.out⟩
        case measure => simp [intOf]; omega
    · obtain rfl : lo = hi := by omega
      have END := hide (fun j (hj : j < ps.length) (e : (ps.getD j default).1 = x) => search_end HR.out h2 HLO.out HHI.out hj e)
      have hcl : ¬ (lo : Int) < (lo : Int) := by omega
      by_cases hn : lo < ps.length
      · obtain rfl := hao (by omega)
        have hb' := hb (by omega)
        obtain ⟨g0, g1⟩ := HL.out.below hb' hnx lo hn
        rw [← getD_at hn] at g0 g1
        have C1 := hide (CMP.out lo hn wr hnx)
        have hni : (lo : Int) < (ps.length : Int) := by omega
        have hsz := hnx.size
        clear hnx
        generalize hK : (ps.getD lo default).1 = K1 at *
        generalize (ps.getD lo default).2 = V1 at *
        have HK := hide hK
        clear hK
        go_wp2_with fail
        refine Calls.mono C1.out ?_
        rintro e w1 ⟨rfl, hb1⟩
        have B1 := hide (HNX.out.trans (hb1.mono hsz))
        clear hb1
        by_cases hz : cmpI K1 x = 0
        · have HF : Hid (FoundAt ps.length (fun t => (ps.getD t default).1) x lo true) := found_yes hn (HK.out.trans (cmpI_zero.1 hz))
          have hzb : (cmpI K1 x == 0) = true := by rw [hz]; rfl
          clear hz
          go_wp2_with fail
          go_ret2
          exact ⟨⟨_, true, rfl, HF.out⟩, B1.out⟩
        · have HF : Hid (FoundAt ps.length (fun t => (ps.getD t default).1) x lo false) := by
            refine found_no (fun t ht e => ?_)
            have e2 := END.out t ht e
            rw [e2] at e
            exact hz (cmpI_zero.2 (HK.out.symm.trans e))
          have hzb : (cmpI K1 x == 0) = false := by simpa using hz
          clear hz
          go_wp2_with fail
          go_ret2
          exact ⟨⟨_, false, rfl, HF.out⟩, B1.out⟩
      · have HF : Hid (FoundAt ps.length (fun t => (ps.getD t default).1) x lo false) := by
          refine found_no (fun t ht e => ?_)
          have e2 := END.out t ht e
          omega
        have hni : ¬ (lo : Int) < (ps.length : Int) := by omega
        clear hnx
        go_wp2_with fail
        go_ret2
        exact ⟨⟨_, false, rfl, HF.out⟩, HNX.out⟩
end Go.Proofs.Ytjibhdcnibgegaa
