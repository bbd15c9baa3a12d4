import Derived.Test.YtjibhdcnibgegaaRrRef
namespace Go.Proofs.Ytjibhdcnibgegaa
open Go.RowKit
set_option maxHeartbeats 2000000 in
set_option maxRecDepth 100000 in
/-- the document's ReadRecord -/
theorem rreadRecord_any (d : ByteArray) (a : Int) (hd : d.size ≤ 140737488351232) (w : World) :
    Calls Try.prog 19 #[.string d, .int .i64 a] w fun e w' => ∃ v, e = .returned (.tuple #[v, .int .i64 (rrN d a), .int .i64 (rrE d a)]) ∧ w'.ownsRow w.heap.size 81 2 v (rrL d a).length (pc (rrL d a)) ∧ Below w.heap.size w w' := by
  by_cases hin : 0 ≤ a ∧ a ≤ (d.size : Int)
  · obtain ⟨p, rfl⟩ : ∃ p : Nat, a = (p : Int) := ⟨a.toNat, by omega⟩
    have R := hide (spelled_any d p hd (by omega) w)
    have hsl := spL_len d p
    cases hsp : spellAt d p with
    | none =>
      have e0 : errL (spL d p) = 36 := by rw [(spL_none hsp).1]; rfl
      obtain ⟨e1, e2, e3⟩ := rr_bad hin (by rw [Int.toNat_natCast, e0]; omega)
      rw [e1, e2, e3]
      rw [spZ_none hsp] at R
      clear e1 e2 e3 e0 hsp
      generalize spL d p = L at *
      go_enter Try.func19, Try.ntmps19
      go_wp2_with fail
      refine Calls.mono R.out ?_
      rintro e w1 ⟨v, rfl, o1, hb1⟩
      have HB := hide hb1
      clear o1 hb1
      go_wp2_with fail
      go_ret3
      exact ⟨_, rfl, World.ownsRow_nil _ _ _ _, HB.out⟩
    | some x =>
      obtain ⟨l, q⟩ := x
      have ht := spell_text hsp
      obtain ⟨hq1, hq2, _, _⟩ := spell_rec hsp
      obtain ⟨el, en⟩ := spL_some hsp
      rw [spZ_some hsp, el] at R
      rw [el] at hsl
      by_cases he : errL l = 0
      · obtain ⟨e1, e2, e3⟩ := rr_good hin (by rwa [Int.toNat_natCast, el])
        rw [e1, e2, e3, Int.toNat_natCast, el, en]
        have hS : recS l = d.extract p q := by rw [recS_ok he, ht]
        clear e1 e2 e3 hsp ht el en
        have HE := hide he
        have HS := hide hS
        clear he hS
        have hse : ((d.extract p q).toList == (d.extract p q).toList) = true := by simp
        go_enter Try.func19, Try.ntmps19
        go_wp2_with fail
        refine Calls.mono R.out ?_
        rintro e w1 ⟨v, rfl, o1, hb1⟩
        obtain ⟨ao, g, cap, rfl, h1, h2, h3⟩ := own_pairs o1
        have W := rrecord_any ao g 0 cap l w1 h1 h2 (by omega) h3
        rw [HE.out, HS.out] at W
        have HW := hide W
        have O1 := hide o1
        have HB := hide hb1
        have s1 := hb1.size
        clear W o1 hb1 h1 h2 h3
        go_wp2_with fail
        refine Calls.mono HW.out ?_
        rintro e w2 ⟨rfl, hb2⟩
        have O2 := hide (own_below O1.out hb2)
        have B2 := hide (HB.out.trans (hb2.mono s1))
        clear hb2
        go_wp2_with fail
        go_ret3
        exact ⟨_, rfl, O2.out, B2.out⟩
      · obtain ⟨e1, e2, e3⟩ := rr_bad hin (by rwa [Int.toNat_natCast, el])
        rw [e1, e2, e3]
        have hS := recS_bad he
        have hne : (errL l != 0) = true := by simpa using he
        clear e1 e2 e3 hsp ht el en
        have HS := hide hS
        clear he hS
        go_enter Try.func19, Try.ntmps19
        go_wp2_with fail
        refine Calls.mono R.out ?_
        rintro e w1 ⟨v, rfl, o1, hb1⟩
        obtain ⟨ao, g, cap, rfl, h1, h2, h3⟩ := own_pairs o1
        have W := rrecord_any ao g 0 cap l w1 h1 h2 (by omega) h3
        rw [HS.out] at W
        have HW := hide W
        have HB := hide hb1
        have s1 := hb1.size
        clear W o1 hb1 h1 h2 h3
        generalize errL l = E at *
        go_wp2_with fail
        refine Calls.mono HW.out ?_
        rintro e w2 ⟨rfl, hb2⟩
        have B2 := hide (HB.out.trans (hb2.mono s1))
        clear hb2
        go_wp2_with fail
        go_ret3
        exact ⟨_, rfl, World.ownsRow_nil _ _ _ _, B2.out⟩
  · obtain ⟨e1, e2, e3⟩ := rr_arg hin
    rw [e1, e2, e3]
    clear e1 e2 e3
    by_cases hneg : a < 0
    · go_enter Try.func19, Try.ntmps19
      go_wp2_with fail
      go_ret3
      exact ⟨_, rfl, World.ownsRow_nil _ _ _ _, Below.refl _ _⟩
    · have hbig : (d.size : Int) < a := by omega
      clear hin
      go_enter Try.func19, Try.ntmps19
      go_wp2_with fail
      go_ret3
      exact ⟨_, rfl, World.ownsRow_nil _ _ _ _, Below.refl _ _⟩
set_option maxHeartbeats 2000000 in
set_option maxRecDepth 100000 in
/-- the law RecordReads -/
theorem reads_full (d : ByteArray) (a : Int) (hd : d.size ≤ 140737488351232) (_ : -9223372036854775808 ≤ a ∧ a ≤ 9223372036854775807) (w : World) :
    Calls Try.prog 5 #[.string d, .int .i64 a] w fun e w' => e = .returned (.bool true) ∧ Below w.heap.size w w' := by
  have c1 := hide (readRecord_any d a hd w)
  have c2 := hide (fun w' => rreadRecord_any d a hd w')
  have hlen : (rrL d a).length < 65536 := by
    unfold rrL
    by_cases h : (0 ≤ a ∧ a ≤ (d.size : Int)) ∧ errL (spL d a.toNat) = 0
    · rw [if_pos h]; exact spL_len _ _
    · rw [if_neg h]; simp
  generalize rrN d a = NN at *
  generalize rrE d a = EE at *
  generalize rrL d a = L at *
  go_enter Try.func5, Try.ntmps5
  go_wp2_with fail
  refine Calls.mono c1.out ?_
  rintro e w1 ⟨v1, rfl, o1, hb1⟩
  have O1 := hide o1
  have HB1 := hide hb1
  have s1 := hb1.size
  clear o1 hb1
  go_wp2_with fail
  refine Calls.mono (c2.out _) ?_
  rintro e w2 ⟨v2, rfl, o2, hb2⟩
  have o12 := own_below O1.out hb2
  obtain ⟨a1, g1, p1, rfl, h11, h12, h13⟩ := own_pairs o12
  obtain ⟨a2, g2, p2, rfl, h21, h22, h23⟩ := own_pairs o2
  have SP := hide (samePairs_any a1 a2 g1 0 p1 g2 0 p2 L w2 h11 h21 h12 h22 h13 h23 (by omega))
  have B2 := HB1.out.trans (hb2.mono s1)
  have s2 := B2.size
  have HB2 := hide B2
  clear o12 o2 h11 h12 h13 h21 h22 h23 hb2 B2 O1
  go_wp2_with fail
  refine Calls.mono SP.out ?_
  rintro e w3 ⟨rfl, hb3⟩
  have B3 := hide (HB2.out.trans (hb3.mono s2))
  clear hb3
  go_wp2_with fail
  refine Calls.mono (num_any _ _) ?_
  rintro e wx ⟨rfl, rfl⟩
  go_wp2
  go_ret
  exact ⟨rfl, B3.out⟩
end Go.Proofs.Ytjibhdcnibgegaa
