import Derived.Test.YtjibhdcnibgegaaRpLaw
namespace Go.Proofs.Ytjibhdcnibgegaa
open Go.RowKit
theorem PairsAt.split {w : World} {v : Value} {a : Addr} {b off cap : Nat} {ps : List KV} (h : PairsAt w v a b off cap ps) : ∃ ao cp, v = .slice ao ps.length cp ∧ (0 < ps.length → ao = some ⟨b, off, none⟩) ∧ (0 < ps.length → b < w.heap.size) ∧ LiesP b off w ps := by
  rcases h with ⟨rfl, rfl⟩ | ⟨rfl, hb, hl⟩
  · exact ⟨none, 0, rfl, fun h => by simp at h, fun h => by simp at h, fun i hi => by simp at hi⟩
  · exact ⟨_, _, rfl, fun h => by rw [(hb h).1], fun h => (hb h).2, hl⟩
theorem PairsAt.below {w w' : World} {v : Value} {a : Addr} {b off cap : Nat} {ps : List KV} (h : PairsAt w v a b off cap ps) (hb : Below w.heap.size w w') : PairsAt w' v a b off cap ps := by
  rcases h with h | ⟨h, hlt, hl⟩
  · exact .inl h
  · refine .inr ⟨h, fun k => ⟨(hlt k).1, Nat.lt_of_lt_of_le (hlt k).2 hb.size⟩, fun i hi => ?_⟩
    have hb' := (hlt (by omega)).2
    exact hl.below hb' hb i hi
theorem marks_len (ps : List KV) : (ps ++ [mark1, mark2]).length = ps.length + 2 := by simp
theorem row_lt {w : World} {base g cap n e sz : Nat} {xs : List Value} (h : w.ownsRow base e sz (.slice (some ⟨g, 0, none⟩) n cap) n xs) : g < w.heap.size := (h.lt g rfl).2
theorem row_cap {w : World} {base g cap n e sz : Nat} {xs : List Value} (h : w.ownsRow base e sz (.slice (some ⟨g, 0, none⟩) n cap) n xs) : n ≤ cap := by
  rcases h.2 with ⟨h0, _⟩ | ⟨g', cap', cur, h0, _, _, hn, _⟩
  · cases h0
  · injection h0 with h1 h2 h3; subst h3; exact hn
theorem bytes_len {n : Nat} (h : (n + 2) * 32 ≤ 140737488355328) : n ≤ 1099511627776000 ∧ n + 2 ≤ 1099511627776000 := by omega
set_option maxHeartbeats 2000000 in
set_option maxRecDepth 100000 in
/-- the law RecordRecords -/
theorem records_any (v : Value) (a : Addr) (b off cap : Nat) (ps : List KV) (w : World) (hv : PairsAt w v a b off cap ps) (hlen : (ps.length + 2) * 32 ≤ 140737488355328) :
    Calls Try.prog 6 #[v] w fun e w' => e = .returned (.bool true) ∧ Below w.heap.size w w' := by
  obtain ⟨hn1, hn2⟩ := bytes_len hlen
  have R := hide (fun w' (hw : Below w.heap.size w w') => roomy_any v a b off cap ps w' (hv.below hw) hlen)
  have RR : Hid (∀ w', Below w.heap.size w w' → Calls Try.prog 23 #[v] w' fun e w'' => e = .returned (.tuple #[.string (recS ps), .int .i64 (errL ps)]) ∧ Below w'.heap.size w' w'') := fun w' hw => by
    obtain ⟨ao, cp, rfl, h1, h2, h3⟩ := (hv.below hw).split
    exact rrecord_any ao b off cp ps w' h1 h2 hn1 h3
  obtain ⟨ao, cp, rfl, _⟩ := hv.split
  clear hv
  have RC := hide (fun g c w' => record_any (some ⟨g, 0, none⟩) g 0 c ps w' (fun _ => rfl))
  generalize recS ps = RS at *
  generalize errL ps = RE at *
  go_enter Try.func6, Try.ntmps6
  go_wp2_with fail
  refine Calls.mono (R.out w (Below.refl _ _)) ?_
  rintro e w1 ⟨g1, c1, rfl, o1, hb1⟩
  have l1 := row_lies (ps := ps) o1 (by omega)
  have lt1 := row_lt o1
  have cp1 := row_cap o1
  have O1 := hide o1
  have HB1 := hide hb1
  have s1 := hb1.size
  have hn3 : (ps.length : Int) ≤ (c1 : Int) := by omega
  have hn4 : (0 : Int) ≤ (ps.length : Int) := by omega
  clear o1 hb1
  have L1 := hide l1
  clear l1
  go_wp2_with fail
  refine Calls.mono (RC.out g1 c1 w1 (fun _ => lt1) hn1 L1.out) ?_
  rintro e w2 ⟨rfl, hb2⟩
  have B2 := HB1.out.trans (hb2.mono s1)
  have s2 := B2.size
  have O2 := hide (own_below O1.out hb2)
  have HB2 := hide B2
  clear hb2 B2
  go_wp2_with fail
  refine Calls.mono (RR.out w2 HB2.out) ?_
  rintro e w3 ⟨rfl, hb3⟩
  have B3 := HB2.out.trans (hb3.mono s2)
  have s3 := B3.size
  have O3 := hide (own_below O2.out hb3)
  have HB3 := hide B3
  clear hb3 B3
  go_wp2_with fail
  refine Calls.mono (num_any _ _) ?_
  rintro e wx ⟨rfl, rfl⟩
  go_wp2_with fail
  refine Calls.mono (R.out w3 HB3.out) ?_
  rintro e w4 ⟨g4, c4, rfl, o4, hb4⟩
  have B4 := HB3.out.trans (hb4.mono s3)
  have s4 := B4.size
  have O4 := hide (own_below O3.out hb4)
  have OO4 := hide o4
  have HB4 := hide B4
  have la := row_lies (ps := ps ++ [mark1, mark2]) (qs := []) (by rw [List.append_nil]; exact O4.out) (by rw [marks_len]; exact Nat.le_refl _)
  have lb := row_lies (ps := ps ++ [mark1, mark2]) (qs := []) (by rw [List.append_nil]; exact o4) (by rw [marks_len]; exact Nat.le_refl _)
  have SP := samePairs_any (some ⟨g1, 0, none⟩) (some ⟨g4, 0, none⟩) g1 0 c1 g4 0 c4 (ps ++ [mark1, mark2]) w4 (fun _ => rfl) (fun _ => rfl) (fun _ => row_lt O4.out) (fun _ => row_lt o4) la lb (by rw [marks_len]; exact hn2)
  rw [marks_len] at SP
  have HSP := hide SP
  clear SP la lb o4 hb4 B4
  go_wp2_with fail
  refine Calls.mono HSP.out ?_
  rintro e w5 ⟨rfl, hb5⟩
  have B5 := hide (HB4.out.trans (hb5.mono s4))
  clear hb5
  go_wp2
  go_ret
  exact ⟨rfl, B5.out⟩
end Go.Proofs.Ytjibhdcnibgegaa
