import Derived.Test.YtmmcpcgnbffnjaaDoorDhHash
import Derived.Test.YtmmcpcgnbffnjaaDoorDjCrcs
namespace Go.Proofs.YtmmcpcgnbffnjaaDoor
open Go.RowKit
set_option maxRecDepth 100000 in
theorem hwrite_nil (s : ByteArray) (w : World) : Calls Tryd.prog 8 #[.pointer none, .string s] w fun e w' => e = .returned (.int .i64 2) ∧ w = w' := by
  go_enter Tryd.func8, Tryd.ntmps8
  go_wp2
  go_ret
  exact ⟨rfl, rfl⟩
set_option maxRecDepth 100000 in
theorem hmd5_nil (w : World) : Calls Tryd.prog 10 #[.pointer none] w fun e w' => e = .returned (.string ⟨#[]⟩) ∧ w = w' := by
  go_enter Tryd.func10, Tryd.ntmps10
  go_wp2
  go_ret
  exact ⟨rfl, rfl⟩
set_option maxRecDepth 100000 in
theorem hcrc_nil (w : World) : Calls Tryd.prog 12 #[.pointer none] w fun e w' => e = .returned (.int .i64 0) ∧ w = w' := by
  go_enter Tryd.func12, Tryd.ntmps12
  go_wp2
  go_ret
  exact ⟨rfl, rfl⟩
set_option maxRecDepth 100000 in
theorem hcount_nil (w : World) : Calls Tryd.prog 14 #[.pointer none] w fun e w' => e = .returned (.int .i64 0) ∧ w = w' := by
  go_enter Tryd.func14, Tryd.ntmps14
  go_wp2
  go_ret
  exact ⟨rfl, rfl⟩
set_option maxRecDepth 100000 in
theorem numQ_any (d : Int) (w : World) : Calls Tryd.prog 9 #[.int .i64 d] w fun e w' => e = .returned (.int .i64 d) ∧ w = w' := by
  go_enter Tryd.func9, Tryd.ntmps9
  go_wp2
  go_ret
  exact ⟨rfl, rfl⟩
def plc (n : Int) : Int := (Int.tmod n 4 + 4) % 4
theorem plc_in (n : Int) : 0 ≤ plc n ∧ plc n < 4 := by
  have h1 : -4 < Int.tmod n 4 ∧ Int.tmod n 4 < 4 := by
    have a := Int.tmod_lt_of_pos n (show (0 : Int) < 4 by omega)
    have b := Int.lt_tmod_of_pos n (show (0 : Int) < 4 by omega)
    omega
  unfold plc
  omega
set_option maxRecDepth 100000 in
theorem place_any (n : Int) (w : World) : Calls Tryd.prog 5 #[.int .i64 n] w fun e w' => e = .returned (.int .i64 (plc n)) ∧ w = w' := by
  have h := plc_in n
  have h1 : -4 < Int.tmod n 4 ∧ Int.tmod n 4 < 4 := by
    have a := Int.tmod_lt_of_pos n (show (0 : Int) < 4 by omega)
    have b := Int.lt_tmod_of_pos n (show (0 : Int) < 4 by omega)
    omega
  have HP : Hid (plc n = (Int.tmod n 4 + 4) % 4) := rfl
  go_enter Tryd.func5, Tryd.ntmps5
  go_wp2
  go_ret
  exact ⟨by rw [HP.out]; rfl, rfl⟩
set_option maxHeartbeats 1000000 in
set_option maxRecDepth 100000 in
set_option linter.unusedSimpArgs false in
/-- none -/
theorem none_any (K A : Int) (S : ByteArray) (w : World) : Calls Tryd.prog 7 #[.agg #[.int .i64 K, .int .i64 A, .string S]] w fun e w' => e = .returned (.bool true) ∧ Below w.heap.size w w' := by
  have HB := hide ((Below.refl _ w).alloc (Nat.le_refl _) (.cells #[.int .i64 K, .int .i64 A, .string S] 32))
  by_cases h2 : K = 2
  · subst h2
    go_enter Tryd.func7, Tryd.ntmps7
    go_wp2_with fail
    refine Calls.mono (hwrite_nil _ _) ?_
    rintro e wx ⟨rfl, rfl⟩
    go_wp2_with fail
    refine Calls.mono (numQ_any _ _) ?_
    rintro e wx ⟨rfl, rfl⟩
    go_wp2_with fail
    go_ret
    exact ⟨rfl, HB.out⟩
  by_cases h3 : K = 3
  · subst h3
    go_enter Tryd.func7, Tryd.ntmps7
    go_wp2_with fail
    refine Calls.mono (hmd5_nil _) ?_
    rintro e wx ⟨rfl, rfl⟩
    go_wp2_with fail
    go_ret
    exact ⟨rfl, HB.out⟩
  by_cases h4 : K = 4
  · subst h4
    go_enter Tryd.func7, Tryd.ntmps7
    go_wp2_with fail
    refine Calls.mono (hcrc_nil _) ?_
    rintro e wx ⟨rfl, rfl⟩
    go_wp2_with fail
    go_ret
    exact ⟨rfl, HB.out⟩
  by_cases h5 : K = 5
  · subst h5
    go_enter Tryd.func7, Tryd.ntmps7
    go_wp2_with fail
    refine Calls.mono (hcount_nil _) ?_
    rintro e wx ⟨rfl, rfl⟩
    go_wp2_with fail
    go_ret
    exact ⟨rfl, HB.out⟩
  have g2 : (K == 2) = false := by simpa using h2
  have g3 : (K == 3) = false := by simpa using h3
  have g4 : (K == 4) = false := by simpa using h4
  have g5 : (K == 5) = false := by simpa using h5
  go_enter Tryd.func7, Tryd.ntmps7
  go_wp2_with fail
  go_ret
  exact ⟨rfl, HB.out⟩
end Go.Proofs.YtmmcpcgnbffnjaaDoor
