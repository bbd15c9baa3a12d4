import Derived.Test.YtjibhdcnibgegaaRpApp
namespace Go.Proofs.Ytjibhdcnibgegaa
open Go.RowKit
theorem row_some {w : World} {base : Nat} {v : Value} {n : Nat} {xs : List Value} (h : w.ownsRow base 5 1 v n xs) (hn : 0 < n) : ∃ g cap, v = .slice (some ⟨g, 0, none⟩) n cap ∧ base ≤ g := by
  rcases h.2 with ⟨_, h0⟩ | ⟨g, cap, cur, rfl, hg, _⟩
  · omega
  · exact ⟨g, cap, rfl, hg⟩
theorem Grew.cell {w w' : World} {v v' : Value} (h : Grew w w' v v') {b : Nat} (j : Nat) (hb : b < w.heap.size) (hne : v.ownBlock ≠ some b) : w'.cell? ⟨b, j, none⟩ = w.cell? ⟨b, j, none⟩ :=
  World.cell?_of_block (h.by'.block b hb (fun e => hne e.symm))
theorem LiesP.grew {b off : Nat} {w w' : World} {v v' : Value} {ps : List KV} (h : LiesP b off w ps) (hg : Grew w w' v v') (hb : b < w.heap.size) (hne : v.ownBlock ≠ some b) : LiesP b off w' ps := fun i hi => by
  rw [hg.cell _ hb hne, hg.cell _ hb hne]; exact h i hi
theorem Grew.ne {w w' : World} {v v' : Value} (h : Grew w w' v v') {b : Nat} (hb : b < w.heap.size) (hne : v.ownBlock ≠ some b) : v'.ownBlock ≠ some b := by
  rcases h.at' with e | ⟨k, e, hk⟩
  · rw [e]; exact hne
  · rw [e]; intro h; injection h with h; omega
theorem own_ne {w : World} {base b : Nat} {v : Value} {n : Nat} {xs : List Value} {e sz : Nat} (h : w.ownsRow base e sz v n xs) (hb : b < base) : v.ownBlock ≠ some b := fun he => by
  have := (h.lt b he).1; omega
theorem own_ne' {w : World} {base b : Nat} {v : Value} {n : Nat} {xs : List Value} {e sz : Nat} (h : w.ownsRow base e sz v n xs) (hb : w.heap.size ≤ b) : v.ownBlock ≠ some b := fun he => by
  have := (h.lt b he).2; omega
theorem u16_in {x : Int} (h0 : 0 ≤ x) (h1 : x < 65536) : IntKind.u16.wrap x = x := by
  simp [IntKind.wrap, IntKind.signed, IntKind.bits]; omega
set_option maxHeartbeats 2000000 in
set_option maxRecDepth 100000 in
/-- write -/
theorem write_any (base : Nat) (v : Value) (m : Nat) (xs : List Value) (ao : Option Addr) (b off cap : Nat) (ps : List KV) (w : World) (hown0 : w.ownsRow base 5 1 v m xs) (hm : m ≤ 1099511627776) (hbase : base ≤ w.heap.size)
    (hao : 0 < ps.length → ao = some ⟨b, off, none⟩) (hb : 0 < ps.length → b < base) (hlen : ps.length ≤ 512) (hsm : ∀ i (h : i < ps.length), ps[i].1.size ≤ 255 ∧ ps[i].2.size ≤ 4096) (hl : LiesP b off w ps) :
    Calls Try.prog 41 #[v, .slice ao ps.length cap] w fun e w' => ∃ v', e = .returned v' ∧ w'.ownsRow base 5 1 v' (m + (2 + sizeL ps)) (xs ++ (recL ps).map ub) ∧ Grew w w' v v' := by
  have P0 := hide (put16_any ps.length base v m xs w hown0 (by omega) hbase)
  have hu : IntKind.u16.wrap (ps.length : Int) = (ps.length : Int) := u16_in (by omega) (by omega)
  go_enter Try.func41, Try.ntmps41
  go_wp2_with fail
  refine Calls.mono P0.out ?_
  rintro e w1 ⟨v1, rfl, hown1, hg1⟩
  go_wp2_with fail
  go_loopw [0, 14] (fun vr i wr => ∃ k : Nat, k ≤ ps.length ∧ i = .int .i64 (k : Int) ∧ wr.ownsRow base 5 1 vr (m + (2 + sizeL (ps.take k))) (xs ++ (dig 2 ps.length ++ bodyL (ps.take k)).map ub) ∧ Grew w wr v vr)
    (fun _ i _ => ps.length - (intOf i).toNat)
  case atStart => exact ⟨0, by omega, rfl, by simpa [sizeL, bodyL] using hown1, hg1⟩
  case round =>
    obtain ⟨k, hk, rfl, hown, hg⟩ := hrel
    have hsz := hg.size
    by_cases hlt : k < ps.length
    · have hpos : 0 < ps.length := by omega
      obtain rfl := hao hpos
      have hbb := hb hpos
      have hne := own_ne hown0 hbb
      obtain ⟨g0, g1⟩ := hl.grew hg (by omega) hne k hlt
      have hz : sizeL (ps.take k) ≤ k * 4357 := by
        have : ∀ j, j ≤ ps.length → sizeL (ps.take j) ≤ j * 4357 := fun j => by
          induction j with
          | zero => intro _; simp [sizeL]
          | succ j ih =>
            intro hj
            rw [sizeL_take ps j (by omega)]
            have := ih (by omega)
            have := hsm j (by omega)
            omega
        exact this k hk
      have hs := hsm k hlt
      have hT := sizeL_take ps k hlt
      have hB := bodyL_take ps k hlt
      have hki : (k : Int) < (ps.length : Int) := by omega
      unfold pairL at hB
      generalize ps[k].1 = K1 at *
      generalize ps[k].2 = V1 at *
      have HT := hide hT
      have HB := hide hB
      clear hT hB
      generalize sizeL (ps.take k) = Z at *
      generalize hXS : xs ++ (dig 2 ps.length ++ bodyL (ps.take k)).map ub = XS at *
      have HXS := hide hXS
      clear hXS
      have hun1 : IntKind.u16.wrap (K1.size : Int) = (K1.size : Int) := u16_in (by omega) (by omega)
      have hun2 : IntKind.u32.wrap (V1.size : Int) = (V1.size : Int) := u32_in (by omega) (by omega)
      have HOWN := hide hown
      have HG := hide hg
      have HL := hide hl
      have HSM := hide hsm
      clear hl hsm hg hao hb hown1 hg1
      obtain ⟨WA, hWA⟩ : ∃ WA, WA = wr.alloc (.cells #[.string K1, .string V1] 81) := ⟨_, rfl⟩
      have hWAs : WA.heap.size = wr.heap.size + 1 := by rw [hWA]; simp
      have c0 : WA.cell? ⟨wr.heap.size, 0, none⟩ = some (.string K1) := by rw [hWA]; simp
      have c1 : WA.cell? ⟨wr.heap.size, 1, none⟩ = some (.string V1) := by rw [hWA]; simp
      have oA : WA.ownsRow base 5 1 u0 (m + (2 + Z)) XS := by rw [hWA]; exact hown.alloc _
      have gA : Grew w WA v u0 := by rw [hWA]; exact HG.out.alloc _
      have nA : u0.ownBlock ≠ some wr.heap.size := own_ne' hown (Nat.le_refl _)
      clear hown
      have OA := hide oA
      have GA := hide gA
      have NA := hide nA
      clear oA gA nA
      have C1 := hide (put16_any K1.size base u0 (m + (2 + Z)) XS WA OA.out (by omega) (by omega))
      go_wp2_with fail
      rw [← hWA]
      refine Calls.mono C1.out ?_
      rintro e w2 ⟨v2, rfl, o2, G2⟩
      have c20 : w2.cell? ⟨wr.heap.size, 0, none⟩ = some (.string K1) := by rw [G2.cell _ (by omega) NA.out]; exact c0
      have c21 : w2.cell? ⟨wr.heap.size, 1, none⟩ = some (.string V1) := by rw [G2.cell _ (by omega) NA.out]; exact c1
      have n2 := G2.ne (b := wr.heap.size) (by omega) NA.out
      have s2 := G2.size
      have C2 := hide (put32_any V1.size base v2 _ _ w2 o2 (by omega) (by omega))
      have GG2 := hide (GA.out.trans G2)
      have N2 := hide n2
      clear o2 G2 n2
      go_wp2_with fail
      refine Calls.mono C2.out ?_
      rintro e w3 ⟨v3, rfl, o3, G3⟩
      have c30 : w3.cell? ⟨wr.heap.size, 0, none⟩ = some (.string K1) := by rw [G3.cell _ (by omega) N2.out]; exact c20
      have c31 : w3.cell? ⟨wr.heap.size, 1, none⟩ = some (.string V1) := by rw [G3.cell _ (by omega) N2.out]; exact c21
      have n3 := G3.ne (b := wr.heap.size) (by omega) N2.out
      have s3 := G3.size
      obtain ⟨g3, cap3, rfl, hg3⟩ := row_some o3 (by omega)
      have GG3 := hide (GG2.out.trans G3)
      have N3 := hide n3
      have O3 := hide o3
      clear o3 G3 n3
      go_wp2_with (first
        | (at_builtin; refine wpList_appStr rfl _ _ rfl base g3 _ cap3 _ K1 rfl rfl O3.out (by omega) (by omega) ?_; intro v4 w4 o4 G4; obtain ⟨g4, cap4, rfl, hg4⟩ := row_some o4 (by omega); have c41 : w4.cell? ⟨wr.heap.size, 1, none⟩ = some (.string V1) := (G4.cell _ (by omega) N3.out).trans c31; have s4 := G4.size; have GG4 := hide (GG3.out.trans G4); have O4 := hide o4; clear o4 G4)
        | (at_builtin; refine wpList_appStr rfl _ _ rfl base g4 _ cap4 _ V1 rfl rfl O4.out (by omega) (by omega) ?_; intro v5 w5 o5 G5; have GG5 := hide (GG4.out.trans G5); have O5 := hide o5; clear o5 G5))
      go_roundw
      case rel =>
        refine ⟨k + 1, by omega, by go_num, ?_, GG5.out⟩
        have := O5.out
        rw [HT.out, HB.out]
        rw [← HXS.out] at this
        rw [show m + (2 + (Z + (6 + K1.size + V1.size))) = m + (2 + Z) + 2 + 4 + K1.size + V1.size by omega]
        simp only [List.map_append, List.append_assoc] at this ⊢
        exact this
      case measure => simp [intOf]; omega
    · obtain rfl : k = ps.length := by omega
      rw [List.take_length] at hown
      have HOWN := hide hown
      have HG := hide hg
      clear hown hg hl hsm
      go_wp2
      go_ret
      exact ⟨_, rfl, HOWN.out, HG.out⟩
theorem fine {ps : List KV} (h : errL ps = 0) : ps.length ≤ 512 ∧ 0 < ps.length ∧ 2 + sizeL ps ≤ 65536 ∧ ∀ i (h : i < ps.length), ps[i].1.size ≤ 255 ∧ ps[i].2.size ≤ 4096 := by
  by_cases hg : ps.length = 0 ∨ 512 < ps.length
  · rw [(wrong_group hg).2] at h; omega
  · have hall : ∀ j, j < ps.length → badAt ps j = 0 := by
      intro j
      induction j using Nat.strongRecOn with
      | ind j ih =>
        intro hj
        by_cases hb : badAt ps j = 0
        · exact hb
        · have := (wrong_at hg hj (fun i hi => ih i hi (by omega)) hb).2
          rw [h] at this
          exact this.symm
    have e := (wrong_none hg hall).2
    rw [h] at e
    refine ⟨by omega, by omega, ?_, fun i hi => ⟨(badAt_small hi (hall i hi)).2.1, (badAt_small hi (hall i hi)).2.2⟩⟩
    by_cases hz : 65536 < 2 + sizeL ps
    · rw [if_pos hz] at e; omega
    · omega
/-- what both Records answer -/
def recS (ps : List KV) : ByteArray := if errL ps = 0 then strOf (recL ps) else ⟨#[]⟩
theorem recS_ok {ps : List KV} (h : errL ps = 0) : recS ps = strOf (recL ps) := by unfold recS; rw [if_pos h]
theorem recS_bad {ps : List KV} (h : errL ps ≠ 0) : recS ps = ⟨#[]⟩ := by unfold recS; rw [if_neg h]
set_option maxHeartbeats 2000000 in
set_option maxRecDepth 100000 in
/-- Record -/
theorem record_any (ao : Option Addr) (b off cap : Nat) (ps : List KV) (w : World) (hao : 0 < ps.length → ao = some ⟨b, off, none⟩) (hb : 0 < ps.length → b < w.heap.size) (hlen : ps.length ≤ 1099511627776000) (hl : LiesP b off w ps) :
    Calls Try.prog 22 #[.slice ao ps.length cap] w fun e w' => e = .returned (.tuple #[.string (recS ps), .int .i64 (errL ps)]) ∧ Below w.heap.size w w' := by
  have W := hide (weigh_any ao b off cap ps w hao hb hlen hl)
  by_cases he : errL ps = 0
  · obtain ⟨h5, hpos, hz, hsm⟩ := fine he
    obtain ⟨i0, hi, hz0, hz1, hz2⟩ := info_parts info5
    rw [he, recS_ok he]
    rw [wSize_ok he, he] at W
    obtain rfl := hao hpos
    have hb' := hb hpos
    have hlen2 := recL_len ps
    have HSM := hide hsm
    have HL := hide hl
    clear hsm hl hao hb he
    generalize sizeL ps = Z at *
    go_enter Try.func22, Try.ntmps22
    go_wp2_with fail
    refine Calls.mono W.out ?_
    rintro e w1 ⟨rfl, hb1⟩
    have s1 := hb1.size
    go_wp2_with (at_make; refine wpList_make_own _ rfl _ _ 66 rfl w1.heap.size 5 i0 (.int .u8 0) 1 Try.underlying66 hi hz0 hz1 _ _ _ (2 + Z) rfl rfl (by omega) (by rw [hz2]; omega) (by unfold maxLen; omega) (Nat.le_refl _) ?_)
    intro w2 hown2 hgrow2
    have B2 : Below w1.heap.size w1 w2 := (Below.refl _ w1).grown hgrow2 (Nat.le_refl _) (by simp)
    have B12 := hb1.trans (B2.mono s1)
    have s2 := B2.size
    have C := hide (write_any w1.heap.size _ 0 [] (some ⟨b, off, none⟩) b off cap ps w2 hown2 (by omega) s2 (fun _ => rfl) (fun _ => by omega) h5 HSM.out (HL.out.below hb' B12))
    go_wp2_with fail
    refine Calls.mono C.out ?_
    rintro e w3 ⟨v3, rfl, o3, G3⟩
    have hc := own_conv (P := Try.prog) (src := 66) (dst := 9) (l := recL ps) o3 (by rw [recL_len]; omega) Try.underlying66 Try.underlying5 Try.underlying9
    have B3 := B12.trans (G3.below (B := w.heap.size) (by omega) (fun k hk => by have := (hown2.lt k hk).1; omega))
    have HB3 := hide B3
    clear B3 G3 o3 hown2 hgrow2
    go_wp2
    go_ret2
    exact ⟨rfl, HB3.out⟩
  · have HE := hide he
    rw [recS_bad he]
    rw [wSize_bad he] at W
    have hne : (errL ps != 0) = true := by simpa using he
    clear hl hao hb
    generalize errL ps = E at *
    clear he
    go_enter Try.func22, Try.ntmps22
    go_wp2_with fail
    refine Calls.mono W.out ?_
    rintro e w1 ⟨rfl, hb1⟩
    go_wp2_with fail
    go_ret2
    exact ⟨rfl, hb1⟩
end Go.Proofs.Ytjibhdcnibgegaa
