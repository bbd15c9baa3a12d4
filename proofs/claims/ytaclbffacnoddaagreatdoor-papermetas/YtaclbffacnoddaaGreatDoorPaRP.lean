import Derived.Test.YtaclbffacnoddaaGreatDoorPaUns
namespace Go.Proofs.YtaclbffacnoddaaGreatDoor
open Go.RowKit Go.Shelf
/-- the place behind the rows -/
def rpA (title tx : ByteArray) (ts : List FD) : Nat := title.size + tabN ts (tx.data.toList.drop title.size)
def rpForm (title tx : ByteArray) (ts : List FD) : Bool := pfx title tx.data.toList && tabOk ts (tx.data.toList.drop title.size)
def rpE (title tx : ByteArray) (ts : List FD) (ok : Bool) : Int := if rpForm title tx ts then (if clsE tx (rpA title tx ts) = 0 then (if ok then 0 else 42) else clsE tx (rpA title tx ts)) else 40
def rpVs (title tx : ByteArray) (ts : List FD) : List Val := tabVs ts (tx.data.toList.drop title.size)
theorem ret_i64 {a b : Int} (h : a = b) : Ending.returned (.int .i64 b) = .returned (.int .i64 a) := by rw [h]
set_option maxHeartbeats 4000000 in
set_option maxRecDepth 100000 in
theorem readPaper_any (title tx : ByteArray) (b cap rb : Nat) (ts : List FD) (St : List Val → World → Prop) (w : World) (ok : StW w.heap.size rb St) (hlen : ts.length ≤ 64) (hT : ∀ vs w, St vs w → TabAt b w ts ∧ b < w.heap.size)
    (hset : ∀ i (h : i < ts.length) vs, vs.length = i → SetsAs ts[i] rb vs St) (hen : ∀ i (h : i < ts.length), Enters Tryz.prog ts[i].sf) (hrd : ∀ i (h : i < ts.length), ReadsAs ts[i].sh)
    (hge : ∀ i (h : i < ts.length), Enters Tryz.prog ts[i].gf) (nv : Nat → Int) (tv : Nat → ByteArray) (okf : Nat → Bool) (hgets : ∀ w', St (rpVs title tx ts) w' → ∀ i (h : i < ts.length), GetsAt w' ts[i] (nv i) (tv i)) (hal : ∀ i (h : i < ts.length), AllowsIs ts[i] (nv i) (tv i) (okf i))
    (hs : St [] w) (htx : tx.size < 9223372036854775808) (hT4 : ∀ vs w, St vs w → Tab4 0 w) :
    Calls Tryz.prog 22 #[.string tx, .string title, .slice (some ⟨b, 0, none⟩) ts.length cap] w fun e w' => e = .returned (.int .i64 (rpE title tx ts (allB ts.length okf))) ∧ (rpE title tx ts (allB ts.length okf) = 0 → St (rpVs title tx ts) w') ∧ ∃ vs, St vs w' := by
  obtain ⟨W0, hW0⟩ : ∃ W0, W0 = w.alloc (.cells #[.string tx, .int .i64 0] 78) := ⟨_, rfl⟩
  have b0 : Below w.heap.size w W0 := by rw [hW0]; exact (Below.refl _ w).alloc (Nat.le_refl _) _
  have r0 : RdAt w.heap.size tx 0 W0 := by rw [hW0]; exact ⟨by simp, by simp, by simp⟩
  have s0 := ok.kb _ _ _ hs (Kb.of b0)
  have C1 := hide (skip_any w.heap.size tx title 0 W0 r0 (Nat.zero_le _) htx)
  rw [List.drop_zero] at C1
  obtain ⟨RE, hRE⟩ : ∃ RE, RE = rpE title tx ts (allB ts.length okf) := ⟨_, rfl⟩
  rw [← hRE]
  have KB := hide ok.kb
  have S0 := hide s0
  cases hp : pfx title tx.data.toList with
  | false =>
    have e1 : Hid (RE = 40) := by show _ = _; rw [hRE]; unfold rpE rpForm; rw [hp]; rfl
    rw [hp] at C1
    clear hRE ok hT hset hen hrd hge hgets hal hs s0 r0 hT4 b0
    go_enter Tryz.func22, Tryz.ntmps22
    go_wp2_with fail
    rw [← hW0]
    clear hW0
    refine Calls.mono C1.out ?_
    rintro e w1 ⟨rfl, r1, k1⟩
    have S1 := hide (KB.out _ _ _ S0.out k1)
    clear r1 k1 C1
    go_wp2_with fail
    go_ret
    refine ⟨ret_i64 e1.out, ?_, _, S1.out⟩
    intro h; rw [e1.out] at h; cases h
  | true =>
    rw [hp] at C1
    have hA : skA title tx 0 = title.size := by unfold skA; rw [List.drop_zero, hp]; simp
    rw [hA] at C1
    have htl : title.size ≤ tx.size := by have := pfx_le hp; rwa [size_data] at this
    have C2 := hide (fun w' (h1 : St [] w') (h2 : RdAt w.heap.size tx title.size w') => read_any ts b cap w.heap.size rb tx title.size St ok hlen (fun vs w h => (hT vs w h).1) hset hen hrd w' h1 h2 htl htx)
    cases hf : tabOk ts (tx.data.toList.drop title.size) with
    | false =>
      have e1 : Hid (RE = 40) := by show _ = _; rw [hRE]; unfold rpE rpForm; rw [hp, hf]; rfl
      rw [hf] at C2
      clear hRE ok hT hset hen hrd hge hgets hal hs s0 r0 hT4 b0
      go_enter Tryz.func22, Tryz.ntmps22
      go_wp2_with fail
      rw [← hW0]
      clear hW0
      refine Calls.mono C1.out ?_
      rintro e w1 ⟨rfl, r1, k1⟩
      have S1 := hide (KB.out _ _ _ S0.out k1)
      have D2 := hide (C2.out w1 S1.out r1)
      clear r1 k1 C1 C2
      go_wp2_with fail
      refine Calls.mono D2.out ?_
      rintro e w2 ⟨rfl, d1, vs2, a2, s2, r2⟩
      have S2 := hide s2
      clear d1 s2 r2 D2
      go_wp2_with fail
      go_ret
      refine ⟨ret_i64 e1.out, ?_, _, S2.out⟩
      intro h; rw [e1.out] at h; cases h
    | true =>
      have hN := tabN_le _ _ hf
      rw [List.length_drop, size_data] at hN
      have haA : rpA title tx ts ≤ tx.size := by unfold rpA; omega
      have E1 : Hid (RE = (if clsE tx (rpA title tx ts) = 0 then (if allB ts.length okf then 0 else 42) else clsE tx (rpA title tx ts))) := by show _ = _; rw [hRE]; unfold rpE rpForm; rw [hp, hf]; rfl
      have C3 := hide (fun w' (h1 : RdAt w.heap.size tx (rpA title tx ts) w') (h2 : Tab4 0 w') => close_any w.heap.size tx (rpA title tx ts) w' h1 haA htx h2)
      have C4 := hide (fun w' (h1 : St (rpVs title tx ts) w') => fit_any b cap ts w' nv tv okf (by omega) (hT _ _ h1).1 (hT _ _ h1).2 hge (hgets w' h1) hal)
      have T0 := hide hT4
      have HT := hide (fun vs w h => hT vs w h)
      rw [hf] at C2
      have HV : Hid (tabVs ts (tx.data.toList.drop title.size) = rpVs title tx ts ∧ title.size + tabN ts (tx.data.toList.drop title.size) = rpA title tx ts) := ⟨rfl, rfl⟩
      rw [HV.out.1, HV.out.2] at C2
      clear hRE ok hT hset hen hrd hge hgets hal hs s0 r0 hT4 b0 hN HV
      generalize rpVs title tx ts = VS at *
      generalize rpA title tx ts = A at *
      generalize allB ts.length okf = AB at *
      by_cases hcl : clsE tx A = 0
      · rw [hcl] at C3 E1
        cases hAB : AB with
        | true =>
          have e1 : Hid (RE = 0) := by show _ = _; rw [E1.out, hAB]; rfl
          rw [hAB] at C4
          go_enter Tryz.func22, Tryz.ntmps22
          go_wp2_with fail
          rw [← hW0]
          clear hW0
          refine Calls.mono C1.out ?_
          rintro e w1 ⟨rfl, r1, k1⟩
          have S1 := hide (KB.out _ _ _ S0.out k1)
          have D2 := hide (C2.out w1 S1.out r1)
          clear r1 k1 C1 C2
          go_wp2_with fail
          refine Calls.mono D2.out ?_
          rintro e w2 ⟨rfl, d1, d2⟩
          obtain ⟨s2, r2⟩ := d1 trivial
          have S2 := hide s2
          have D3 := hide (C3.out w2 r2 (T0.out _ _ s2))
          clear d1 d2 s2 r2 D2 C3
          go_wp2_with fail
          refine Calls.mono D3.out ?_
          rintro e w3 ⟨rfl, k3⟩
          have S3 := hide (KB.out _ _ _ S2.out k3)
          have D4 := hide (C4.out w3 S3.out)
          clear k3 D3 C4
          go_wp2_with fail
          refine Calls.mono D4.out ?_
          rintro e w4 ⟨rfl, b4⟩
          have S4 := hide (KB.out _ _ _ S3.out (Kb.of b4))
          clear b4 D4
          go_wp2_with fail
          go_ret
          refine ⟨ret_i64 e1.out, ?_, _, S4.out⟩
          intro h; exact S4.out
        | false =>
          have e1 : Hid (RE = 42) := by show _ = _; rw [E1.out, hAB]; rfl
          rw [hAB] at C4
          go_enter Tryz.func22, Tryz.ntmps22
          go_wp2_with fail
          rw [← hW0]
          clear hW0
          refine Calls.mono C1.out ?_
          rintro e w1 ⟨rfl, r1, k1⟩
          have S1 := hide (KB.out _ _ _ S0.out k1)
          have D2 := hide (C2.out w1 S1.out r1)
          clear r1 k1 C1 C2
          go_wp2_with fail
          refine Calls.mono D2.out ?_
          rintro e w2 ⟨rfl, d1, d2⟩
          obtain ⟨s2, r2⟩ := d1 trivial
          have S2 := hide s2
          have D3 := hide (C3.out w2 r2 (T0.out _ _ s2))
          clear d1 d2 s2 r2 D2 C3
          go_wp2_with fail
          refine Calls.mono D3.out ?_
          rintro e w3 ⟨rfl, k3⟩
          have S3 := hide (KB.out _ _ _ S2.out k3)
          have D4 := hide (C4.out w3 S3.out)
          clear k3 D3 C4
          go_wp2_with fail
          refine Calls.mono D4.out ?_
          rintro e w4 ⟨rfl, b4⟩
          have S4 := hide (KB.out _ _ _ S3.out (Kb.of b4))
          clear b4 D4
          go_wp2_with fail
          go_ret
          refine ⟨ret_i64 e1.out, ?_, _, S4.out⟩
          intro h; rw [e1.out] at h; cases h
      · have e1 : Hid (RE = clsE tx A) := by show _ = _; rw [E1.out, if_neg hcl]
        go_enter Tryz.func22, Tryz.ntmps22
        go_wp2_with fail
        rw [← hW0]
        clear hW0
        refine Calls.mono C1.out ?_
        rintro e w1 ⟨rfl, r1, k1⟩
        have S1 := hide (KB.out _ _ _ S0.out k1)
        have D2 := hide (C2.out w1 S1.out r1)
        clear r1 k1 C1 C2
        go_wp2_with fail
        refine Calls.mono D2.out ?_
        rintro e w2 ⟨rfl, d1, d2⟩
        obtain ⟨s2, r2⟩ := d1 trivial
        have S2 := hide s2
        have D3 := hide (C3.out w2 r2 (T0.out _ _ s2))
        clear d1 d2 s2 r2 D2 C3
        go_wp2_with fail
        refine Calls.mono D3.out ?_
        rintro e w3 ⟨rfl, k3⟩
        have S3 := hide (KB.out _ _ _ S2.out k3)
        clear k3 D3 C4
        go_wp2_with fail
        go_ret
        refine ⟨ret_i64 e1.out, ?_, _, S3.out⟩
        intro h; rw [e1.out] at h; exact absurd h hcl
end Go.Proofs.YtaclbffacnoddaaGreatDoor
