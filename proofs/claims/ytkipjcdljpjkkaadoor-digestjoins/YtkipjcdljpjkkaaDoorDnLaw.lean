import Derived.Test.YtkipjcdljpjkkaaDoorDnJoin
namespace Go.Proofs.YtkipjcdljpjkkaaDoor
open Go.RowKit
theorem numN_any (d : Int) (w : World) :
    Calls Tryd.prog 16 #[.int .i64 d] w fun e w' => e = .returned (.int .i64 d) ∧ w = w' := by
  go_enter Tryd.func16, Tryd.ntmps16
  go_wp2
  go_ret
  exact ⟨rfl, rfl⟩
/-- the arguments that CRCJoin takes -/
def Good (a b n : Int) : Prop := 0 ≤ a ∧ a < 4294967296 ∧ 0 ≤ b ∧ b < 4294967296 ∧ 0 ≤ n ∧ n ≤ 9007199254740992
set_option maxHeartbeats 1000000 in
set_option maxRecDepth 100000 in
/-- CRCJoin, of others -/
theorem crcJoin_bad (a b n : Int) (h : ¬ Good a b n) (w : World) :
    Calls Tryd.prog 14 #[.int .i64 a, .int .i64 b, .int .i64 n] w fun e w' => e = .returned (.tuple #[.int .i64 0, .int .i64 21]) ∧ w = w' := by
  have I : ∀ (c : Int) (v : Bool), v = (decide (0 ≤ c) && decide (c ≤ 4294967295)) → Hid (∀ w', Calls Tryd.prog 25 #[.int .i64 c] w' fun e w'' => e = .returned (.bool v) ∧ w' = w'') := fun c v hv w' => by
    rw [hv]; exact isCRC_any c w'
  by_cases ga : 0 ≤ a ∧ a ≤ 4294967295
  · have IA := I a true (by rw [decide_eq_true ga.1, decide_eq_true ga.2]; rfl)
    by_cases gb : 0 ≤ b ∧ b ≤ 4294967295
    · have IB := I b true (by rw [decide_eq_true gb.1, decide_eq_true gb.2]; rfl)
      clear I
      by_cases gn : n < 0
      · have d5 : decide (n < 0) = true := decide_eq_true gn
        clear h ga gb gn
        go_enter Tryd.func14, Tryd.ntmps14
        go_wp2_with fail
        refine Calls.mono (IA.out _) ?_
        rintro e wx ⟨rfl, rfl⟩
        go_wp2_with fail
        refine Calls.mono (IB.out _) ?_
        rintro e wx ⟨rfl, rfl⟩
        go_wp2
        go_ret2
        exact ⟨rfl, rfl⟩
      · have d5 : decide (n < 0) = false := decide_eq_false gn
        have d6 : decide (9007199254740992 < n) = true := decide_eq_true (by unfold Good at h; omega)
        clear h ga gb gn
        go_enter Tryd.func14, Tryd.ntmps14
        go_wp2_with fail
        refine Calls.mono (IA.out _) ?_
        rintro e wx ⟨rfl, rfl⟩
        go_wp2_with fail
        refine Calls.mono (IB.out _) ?_
        rintro e wx ⟨rfl, rfl⟩
        go_wp2
        go_ret2
        exact ⟨rfl, rfl⟩
    · have IB := I b false (by rw [← Bool.decide_and, decide_eq_false gb])
      clear I h ga gb
      go_enter Tryd.func14, Tryd.ntmps14
      go_wp2_with fail
      refine Calls.mono (IA.out _) ?_
      rintro e wx ⟨rfl, rfl⟩
      go_wp2_with fail
      refine Calls.mono (IB.out _) ?_
      rintro e wx ⟨rfl, rfl⟩
      go_wp2
      go_ret2
      exact ⟨rfl, rfl⟩
  · have IA := I a false (by rw [← Bool.decide_and, decide_eq_false ga])
    clear I h ga
    go_enter Tryd.func14, Tryd.ntmps14
    go_wp2_with fail
    refine Calls.mono (IA.out _) ?_
    rintro e wx ⟨rfl, rfl⟩
    go_wp2
    go_ret2
    exact ⟨rfl, rfl⟩
set_option maxHeartbeats 1000000 in
set_option maxRecDepth 100000 in
/-- the document's CRCJoin, of others -/
theorem rjoin_bad (a b n : Int) (h : ¬ Good a b n) (w : World) :
    Calls Tryd.prog 15 #[.int .i64 a, .int .i64 b, .int .i64 n] w fun e w' => e = .returned (.tuple #[.int .i64 0, .int .i64 21]) ∧ w = w' := by
  by_cases h1 : a < 0
  · have d1 : decide (a < 0) = true := decide_eq_true h1
    clear h h1
    go_enter Tryd.func15, Tryd.ntmps15
    go_wp2
    go_ret2
    exact ⟨rfl, rfl⟩
  have d1 : decide (a < 0) = false := decide_eq_false h1
  by_cases h2 : 4294967296 ≤ a
  · have d2 : decide (4294967296 ≤ a) = true := decide_eq_true h2
    clear h h1 h2
    go_enter Tryd.func15, Tryd.ntmps15
    go_wp2
    go_ret2
    exact ⟨rfl, rfl⟩
  have d2 : decide (4294967296 ≤ a) = false := decide_eq_false h2
  by_cases h3 : b < 0
  · have d3 : decide (b < 0) = true := decide_eq_true h3
    clear h h1 h2 h3
    go_enter Tryd.func15, Tryd.ntmps15
    go_wp2
    go_ret2
    exact ⟨rfl, rfl⟩
  have d3 : decide (b < 0) = false := decide_eq_false h3
  by_cases h4 : 4294967296 ≤ b
  · have d4 : decide (4294967296 ≤ b) = true := decide_eq_true h4
    clear h h1 h2 h3 h4
    go_enter Tryd.func15, Tryd.ntmps15
    go_wp2
    go_ret2
    exact ⟨rfl, rfl⟩
  have d4 : decide (4294967296 ≤ b) = false := decide_eq_false h4
  by_cases h5 : n < 0
  · have d5 : decide (n < 0) = true := decide_eq_true h5
    clear h h1 h2 h3 h4 h5
    go_enter Tryd.func15, Tryd.ntmps15
    go_wp2
    go_ret2
    exact ⟨rfl, rfl⟩
  have d5 : decide (n < 0) = false := decide_eq_false h5
  have d6 : decide (9007199254740992 < n) = true := decide_eq_true (by unfold Good at h; omega)
  clear h h1 h2 h3 h4 h5
  go_enter Tryd.func15, Tryd.ntmps15
  go_wp2
  go_ret2
  exact ⟨rfl, rfl⟩
set_option maxHeartbeats 1000000 in
set_option maxRecDepth 100000 in
/-- the law DigestJoins -/
theorem joins_any (a b n : Int) (w : World) (hT : TabP w) :
    Calls Tryd.prog 4 #[.int .i64 a, .int .i64 b, .int .i64 n] w fun e w' => e = .returned (.bool true) ∧ Below w.heap.size w w' := by
  have both : Hid (∃ u v : Int, (∀ w', Calls Tryd.prog 14 #[.int .i64 a, .int .i64 b, .int .i64 n] w' fun e w'' => e = .returned (.tuple #[.int .i64 u, .int .i64 v]) ∧ w' = w'') ∧ Calls Tryd.prog 15 #[.int .i64 a, .int .i64 b, .int .i64 n] w fun e w'' => e = .returned (.tuple #[.int .i64 u, .int .i64 v]) ∧ Below w.heap.size w w'') := by
    by_cases h : Good a b n
    · obtain ⟨h1, h2, h3, h4, h5, h6⟩ := h
      obtain ⟨a, rfl⟩ := Int.eq_ofNat_of_zero_le h1
      obtain ⟨b, rfl⟩ := Int.eq_ofNat_of_zero_le h3
      obtain ⟨n, rfl⟩ := Int.eq_ofNat_of_zero_le h5
      exact ⟨_, _, fun w' => crcJoin_ok a b n (by omega) (by omega) (by omega) w', rjoin_ok a b n (by omega) (by omega) (by omega) w hT⟩
    · exact ⟨_, _, fun w' => crcJoin_bad a b n h w', (rjoin_bad a b n h w).mono fun e w' ⟨he, hw⟩ => ⟨he, hw ▸ Below.refl _ _⟩⟩
  obtain ⟨u, v, c1, c2⟩ := both.out
  have C1 := hide c1
  have C2 := hide c2
  clear c1 c2 both hT
  go_enter Tryd.func4, Tryd.ntmps4
  go_wp2_with fail
  refine Calls.mono (C1.out _) ?_
  rintro e wx ⟨rfl, rfl⟩
  go_wp2_with fail
  refine Calls.mono C2.out ?_
  rintro e w2 ⟨rfl, hb⟩
  go_wp2_with (go_at_call 16; refine Calls.mono (numN_any _ _) ?_; rintro e wx ⟨rfl, rfl⟩)
  go_ret
  exact ⟨rfl, hb⟩
end Go.Proofs.YtkipjcdljpjkkaaDoor
