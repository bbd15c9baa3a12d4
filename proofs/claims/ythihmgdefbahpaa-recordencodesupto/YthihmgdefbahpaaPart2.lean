import Derived.Test.YthihmgdefbahpaaPart1
import Derived.Lib.AppendStr
import Derived.Laws.ResultCell
import Derived.OpenShut
import Derived.SizedLaws
namespace Go.Proofs.Ythihmgdefbahpaa
open Go.RowKit
theorem strCells_ub (s : ByteArray) : Lib.strCells s = s.data.toList.map ub := rfl
/-- append of a text to a row that is there: it lies where it lay, or anew -/
theorem run_appStr (w : World) (base g n cap : Nat) (xs : List Value) (ty : TypeId) (s : ByteArray) (hown : w.ownsRow base 5 1 (.slice (some ⟨g, 0, none⟩) n cap) n xs) (hbytes : n + s.size ≤ 140737488355328) (hbase : base ≤ w.heap.size) :
    ∃ v' w', (Builtin.append_ #[76, 9] ty #[.slice (some ⟨g, 0, none⟩) n cap, .string s]).run Try.prog w = .ok v' w' ∧ w'.ownsRow base 5 1 v' (n + s.size) (xs ++ s.data.toList.map ub) ∧ Grew w w' (.slice (some ⟨g, 0, none⟩) n cap) v' := by
  obtain ⟨i0, hi, hz0, hz1, hz2⟩ := info_parts info5
  obtain ⟨v', w', hr, ho, hg, hn⟩ := Lib.run_append_own_string (P := Try.prog) w base 76 9 ty 5 i0 Try.underlying76 Try.underlying9 hi hz0 hz1 hz2 _ n xs hown s (by unfold maxLen; omega) hbytes hbase
  refine ⟨v', w', hr, ho, hg, ?_⟩
  rcases hown.2 with ⟨h0, _⟩ | ⟨g', cap', cur, h0, hbg, hgg, hnc, hcm, hcs, htake⟩
  · cases h0
  · injection h0 with h1 h2 h3
    injection h1 with h1
    injection h1 with h1
    subst h1; subst h3
    by_cases hroom : n + s.size ≤ cap
    · have h2 := Lib.run_append_room_string (P := Try.prog) w 76 9 ty 5 i0 Try.underlying76 Try.underlying9 hi hz1 g n cap cur hgg s hroom (by omega)
      rw [hr] at h2
      injection h2 with h2 h3
      exact .inl (by rw [h2]; rfl)
    · have h2 := Lib.run_append_grow_string (P := Try.prog) w 76 9 ty 5 i0 (.int .u8 0) Try.underlying76 Try.underlying9 hi hz0 ⟨g, 0, none⟩ n cap xs (by rw [hz1]; exact hown.1) (hown.cells (g := g) rfl) s (by omega) (by omega) (by rw [hz2]; exact growslice_fits (by omega) (by omega))
      rw [hr] at h2
      injection h2 with h2 h3
      exact .inr ⟨w.heap.size, by rw [h2]; rfl, Nat.le_refl _⟩
theorem wpList_appStr {w : World} {ops : Array Oper} {rest : List Oper} {o : Oper} {a : Act} {Q : Exit → Act → World → Prop} (hgd : o.guard = none) (sl x : Operand)
    (ho : o.op = .call { callee := .builtin .append, args := #[sl, x], argTypes := #[76, 9] })
    (base g n cap : Nat) (xs : List Value) (s : ByteArray) (hs : a.eval sl = .slice (some ⟨g, 0, none⟩) n cap) (hx : a.eval x = .string s) (hown : w.ownsRow base 5 1 (.slice (some ⟨g, 0, none⟩) n cap) n xs) (hbytes : n + s.size ≤ 140737488355328) (hbase : base ≤ w.heap.size)
    (h : ∀ v' w', w'.ownsRow base 5 1 v' (n + s.size) (xs ++ s.data.toList.map ub) → Grew w w' (.slice (some ⟨g, 0, none⟩) n cap) v' → wpList Try.prog ops Q rest (a.put o.dst v') w') : wpList Try.prog ops Q (o :: rest) a w := by
  refine wpList_plain hgd fun K hK => ?_
  obtain ⟨v', w', hr, h2, h3⟩ := run_appStr w base g n cap xs o.type s hown hbytes hbase
  unfold Oper.wp execOp
  simp only [ho, resolve, invoke, builtin, Sem.run_bind, Sem.run_pure, Result.andThen_ok, List.map_toArray, List.map_cons, List.map_nil, hs, hx, hr]
  exact hK _ _ (h v' w' h2 h3)
set_option maxRecDepth 100000 in
theorem len64_16 (w : World) : Calls Try.prog 64 #[.int .u64 65535] w fun e w' => e = .returned (.int .i64 16) ∧ w = w' := by
  go_enter Try.func64, Try.ntmps64
  go_wp2
  go_ret
  exact ⟨by kernel_rfl, rfl⟩
set_option maxHeartbeats 1000000 in
set_option maxRecDepth 100000 in
/-- put of two bytes -/
theorem put16_any (n : Nat) (base : Nat) (v : Value) (m : Nat) (xs : List Value) (w : World) (hown0 : w.ownsRow base 5 1 v m xs) (hm : m ≤ 70368744177664) (hbase : base ≤ w.heap.size) :
    Calls Try.prog 65 #[v, .int .u16 (n : Int)] w fun e w' => ∃ v', e = .returned v' ∧ w'.ownsRow base 5 1 v' (m + 2) (xs ++ (dig 2 n).map ub) ∧ Grew w w' v v' := by
  obtain ⟨i0, hi, hz0, hz1, hz2⟩ := info_parts info5
  go_enter Try.func65, Try.ntmps65
  go_wp2_with (go_at_call 64; refine Calls.mono (len64_16 _) ?_; rintro e w' ⟨rfl, rfl⟩)
  go_loopw [0, 5] (fun v1 i wr => ∃ k : Nat, k ≤ 2 ∧ i = .int .i64 (8 - 8 * (k : Int)) ∧
      wr.ownsRow base 5 1 v1 (m + k) (xs ++ ((dig 2 n).take k).map ub) ∧ Grew w wr v v1)
    (fun _ i _ => (intOf i + 8).toNat)
  case atStart => exact ⟨0, by omega, rfl, by simpa using hown0, Grew.refl _ _⟩
  case round =>
    obtain ⟨k, hk, rfl, hown, hg⟩ := hrel
    have hsz := hg.size
    by_cases h4 : k = 2
    · subst h4
      go_wp2
      go_ret
      refine ⟨_, rfl, ?_, hg⟩
      rwa [List.take_of_length_le (by rw [dig_len]; omega)] at hown
    · obtain ⟨b, hb⟩ : ∃ b, b = UInt8.ofNat (n / 2 ^ (8 - 8 * k)) := ⟨_, rfl⟩
      have e1 : (dig 2 n).take (k + 1) = (dig 2 n).take k ++ [b] := by
        rw [dig_two, hb]
        have : k = 0 ∨ k = 1 := by omega
        rcases this with rfl | rfl <;> simp
      have hq : ((n : Int) / 2 ^ (8 - 8 * (k : Int)).toNat) = ((n / 2 ^ (8 - 8 * k) : Nat) : Int) := by
        rw [show (8 - 8 * (k : Int)).toNat = 8 - 8 * k by omega]; norm_cast
      have hk3 : (k : Int) ≤ 1 := by omega
      have hb8 := hb ▸ u8_nat (n / 2 ^ (8 - 8 * k))
      generalize n / 2 ^ (8 - 8 * k) = N at *
      have HB := hide hb
      clear hb
      have E1 := hide e1
      clear e1
      go_wp2_with (at_builtin; refine wpList_append_own_at _ rfl _ _ 76 rfl base 5 i0 (.int .u8 0) 1 1 Try.underlying76 hi hz0 hz1 hz2 rfl (by decide) _ _ _ rfl (hown.alloc _) ⟨wr.heap.size, 0, none⟩ 1 1 [ub b] rfl rfl (cell_one_new _ _ _) (one_of rfl) (by unfold maxLen; omega) (by omega) (by simp; omega) ?_; intro v1 w2 hown2 hgrow2 hnil2 hat2)
      go_roundw
      case rel =>
        refine ⟨k + 1, by omega, by go_num, ?_, ?_⟩
        · rw [E1.out, List.map_append, ← List.append_assoc]
          exact hown2
        · exact (hg.alloc _).app hgrow2 hat2
      case measure => simp [intOf]; omega
theorem bor16 (a b : Nat) (ha : a < 256) (hb : b < 256) : bits .or .u16 ((a : Int) * 256) (b : Int) = ((a * 256 + b : Nat) : Int) := by
  have hx : 2 ^ 8 * a + b = 2 ^ 8 * a ||| b := Nat.two_pow_add_eq_or_of_lt (by omega) a
  have o : ∀ c : Nat, c < 65536 → (BitVec.ofInt 16 (c : Int)).toNat = c := fun c hc => by
    rw [BitVec.ofInt_natCast, BitVec.toNat_ofNat]; exact Nat.mod_eq_of_lt (by omega)
  show IntKind.u16.wrap ((BitVec.ofInt 16 ((a : Int) * 256) ||| BitVec.ofInt 16 (b : Int)).toNat : Int) = _
  rw [show (a : Int) * 256 = ((256 * a : Nat) : Int) by omega, BitVec.toNat_or, o (256 * a) (by omega), o b (by omega)]
  rw [show 256 * a = 2 ^ 8 * a by omega, ← hx]
  simp [IntKind.wrap, IntKind.signed, IntKind.bits]; omega
set_option maxHeartbeats 1000000 in
set_option maxRecDepth 100000 in
/-- take of at most two bytes -/
theorem take16_any (s : ByteArray) (hs : s.size ≤ 2) (w : World) :
    Calls Try.prog 70 #[.string s] w fun e w' => e = .returned (.int .u16 (val s.data.toList : Int)) ∧ w = w' := by
  go_enter Try.func70, Try.ntmps70
  go_wp2
  go_loopw [3, 7] (fun n i wr => ∃ k : Nat, k ≤ s.size ∧ i = .int .i64 (k : Int) ∧ n = .int .u16 (val (s.data.toList.take k) : Int) ∧ w = wr)
    (fun _ i _ => s.size - (intOf i).toNat)
  case atStart => exact ⟨0, by omega, rfl, rfl, rfl⟩
  case round =>
    obtain ⟨k, hk, rfl, rfl, rfl⟩ := hrel
    by_cases hlt : k < s.size
    · have hx : ∀ w', (Instr.index 9 (.string s) (.int .i64 (k : Int))).run Try.prog w' = .ok (.int .u8 (s[k].toNat : Int)) w' := fun w' => ix_str w' s k hlt
      have hX : s[k].toNat < 256 := s[k].toNat_lt
      have hv := val_take s.data.toList k (by rw [size_data]; exact hlt)
      rw [show s.data.toList[k]'(by rw [size_data]; exact hlt) = s[k] from rfl] at hv
      have hN : val (s.data.toList.take k) < 256 := by
        refine Nat.lt_of_lt_of_le (val_lt _) ?_
        rw [List.length_take, size_data, Nat.min_eq_left hk]
        exact Nat.pow_le_pow_right (by omega) (show k ≤ 1 by omega)
      generalize s[k].toNat = X at *
      generalize val (s.data.toList.take k) = N at *
      have HV := hide hv
      clear hv
      have hor := bor16 N X hN hX
      go_wp2
      go_roundw
      case rel => exact ⟨k + 1, by omega, by go_num, by rw [HV.out]; norm_cast, trivial⟩
      case measure => simp [intOf]; omega
    · obtain rfl : k = s.size := by omega
      go_wp2
      go_ret
      rw [List.take_of_length_le (by simp)]
      exact ⟨rfl, rfl⟩
end Go.Proofs.Ythihmgdefbahpaa
namespace Go.Proofs.Ythihmgdefbahpaa
open Go.RowKit
theorem row_some {w : World} {base : Nat} {v : Value} {n : Nat} {xs : List Value} (h : w.ownsRow base 5 1 v n xs) (hn : 0 < n) : ∃ g cap, v = .slice (some ⟨g, 0, none⟩) n cap ∧ base ≤ g := by
  rcases h.2 with ⟨_, h0⟩ | ⟨g, cap, cur, rfl, hg, _⟩
  · omega
  · exact ⟨g, cap, rfl, hg⟩
theorem Grew.cell {w w' : World} {v v' : Value} (h : Grew w w' v v') {b : Nat} (j : Nat) (hb : b < w.heap.size) (hne : v.ownBlock ≠ some b) : w'.cell? ⟨b, j, none⟩ = w.cell? ⟨b, j, none⟩ :=
  World.cell?_of_block (h.by'.block b hb (fun e => hne e.symm))
theorem LiesP.grew {b off : Nat} {w w' : World} {v v' : Value} {ps : List KV} (h : LiesP b off w ps) (hg : Grew w w' v v') (hb : b < w.heap.size) (hne : v.ownBlock ≠ some b) : LiesP b off w' ps := fun i hi => by
  rw [hg.cell _ hb hne, hg.cell _ hb hne]; exact h i hi
theorem Grew.ne {w w' : World} {v v' : Value} (h : Grew w w' v v') {b : Nat} (hb : b < w.heap.size) (hne : v.ownBlock ≠ some b) : v'.ownBlock ≠ some b := by
  rcases h.at' with e | ⟨k, e, hk⟩
  · rw [e]; exact hne
  · rw [e]; intro h; injection h with h; omega
theorem own_ne {w : World} {base b : Nat} {v : Value} {n : Nat} {xs : List Value} {e sz : Nat} (h : w.ownsRow base e sz v n xs) (hb : b < base) : v.ownBlock ≠ some b := fun he => by
  have := (h.lt b he).1; omega
theorem own_ne' {w : World} {base b : Nat} {v : Value} {n : Nat} {xs : List Value} {e sz : Nat} (h : w.ownsRow base e sz v n xs) (hb : w.heap.size ≤ b) : v.ownBlock ≠ some b := fun he => by
  have := (h.lt b he).2; omega
theorem u16_in {x : Int} (h0 : 0 ≤ x) (h1 : x < 65536) : IntKind.u16.wrap x = x := by
  simp [IntKind.wrap, IntKind.signed, IntKind.bits]; omega
set_option maxHeartbeats 2000000 in
set_option maxRecDepth 100000 in
/-- write -/
theorem write_any (base : Nat) (v : Value) (m : Nat) (xs : List Value) (ao : Option Addr) (b off cap : Nat) (ps : List KV) (w : World) (hown0 : w.ownsRow base 5 1 v m xs) (hm : m ≤ 1099511627776) (hbase : base ≤ w.heap.size)
    (hao : 0 < ps.length → ao = some ⟨b, off, none⟩) (hb : 0 < ps.length → b < base) (hlen : ps.length ≤ 512) (hsm : ∀ i (h : i < ps.length), ps[i].1.size ≤ 255 ∧ ps[i].2.size ≤ 4096) (hl : LiesP b off w ps) :
    Calls Try.prog 44 #[v, .slice ao ps.length cap] w fun e w' => ∃ v', e = .returned v' ∧ w'.ownsRow base 5 1 v' (m + (2 + sizeL ps)) (xs ++ (recL ps).map ub) ∧ Grew w w' v v' := by
  have P0 := hide (put16_any ps.length base v m xs w hown0 (by omega) hbase)
  have hu : IntKind.u16.wrap (ps.length : Int) = (ps.length : Int) := u16_in (by omega) (by omega)
  go_enter Try.func44, Try.ntmps44
  go_wp2_with fail
  refine Calls.mono P0.out ?_
  rintro e w1 ⟨v1, rfl, hown1, hg1⟩
  go_wp2_with fail
  go_loopw [0, 14] (fun vr i wr => ∃ k : Nat, k ≤ ps.length ∧ i = .int .i64 (k : Int) ∧ wr.ownsRow base 5 1 vr (m + (2 + sizeL (ps.take k))) (xs ++ (dig 2 ps.length ++ bodyL (ps.take k)).map ub) ∧ Grew w wr v vr)
    (fun _ i _ => ps.length - (intOf i).toNat)
  case atStart => exact ⟨0, by omega, rfl, by simpa [sizeL, bodyL] using hown1, hg1⟩
  case round =>
    obtain ⟨k, hk, rfl, hown, hg⟩ := hrel
    have hsz := hg.size
    by_cases hlt : k < ps.length
    · have hpos : 0 < ps.length := by omega
      obtain rfl := hao hpos
      have hbb := hb hpos
      have hne := own_ne hown0 hbb
      obtain ⟨g0, g1⟩ := hl.grew hg (by omega) hne k hlt
      have hz : sizeL (ps.take k) ≤ k * 4357 := by
        have : ∀ j, j ≤ ps.length → sizeL (ps.take j) ≤ j * 4357 := fun j => by
          induction j with
          | zero => intro _; simp [sizeL]
          | succ j ih =>
            intro hj
            rw [sizeL_take ps j (by omega)]
            have := ih (by omega)
            have := hsm j (by omega)
            omega
        exact this k hk
      have hs := hsm k hlt
      have hT := sizeL_take ps k hlt
      have hB := bodyL_take ps k hlt
      have hki : (k : Int) < (ps.length : Int) := by omega
      unfold pairL at hB
      generalize ps[k].1 = K1 at *
      generalize ps[k].2 = V1 at *
      have HT := hide hT
      have HB := hide hB
      clear hT hB
      generalize sizeL (ps.take k) = Z at *
      generalize hXS : xs ++ (dig 2 ps.length ++ bodyL (ps.take k)).map ub = XS at *
      have HXS := hide hXS
      clear hXS
      have hun1 : IntKind.u16.wrap (K1.size : Int) = (K1.size : Int) := u16_in (by omega) (by omega)
      have hun2 : IntKind.u32.wrap (V1.size : Int) = (V1.size : Int) := u32_in (by omega) (by omega)
      have HOWN := hide hown
      have HG := hide hg
      have HL := hide hl
      have HSM := hide hsm
      clear hl hsm hg hao hb hown1 hg1
      obtain ⟨WA, hWA⟩ : ∃ WA, WA = wr.alloc (.cells #[.string K1, .string V1] 65) := ⟨_, rfl⟩
      have hWAs : WA.heap.size = wr.heap.size + 1 := by rw [hWA]; simp
      have c0 : WA.cell? ⟨wr.heap.size, 0, none⟩ = some (.string K1) := by rw [hWA]; simp
      have c1 : WA.cell? ⟨wr.heap.size, 1, none⟩ = some (.string V1) := by rw [hWA]; simp
      have oA : WA.ownsRow base 5 1 u0 (m + (2 + Z)) XS := by rw [hWA]; exact hown.alloc _
      have gA : Grew w WA v u0 := by rw [hWA]; exact HG.out.alloc _
      have nA : u0.ownBlock ≠ some wr.heap.size := own_ne' hown (Nat.le_refl _)
      clear hown
      have OA := hide oA
      have GA := hide gA
      have NA := hide nA
      clear oA gA nA
      have C1 := hide (put16_any K1.size base u0 (m + (2 + Z)) XS WA OA.out (by omega) (by omega))
      go_wp2_with fail
      rw [← hWA]
      refine Calls.mono C1.out ?_
      rintro e w2 ⟨v2, rfl, o2, G2⟩
      have c20 : w2.cell? ⟨wr.heap.size, 0, none⟩ = some (.string K1) := by rw [G2.cell _ (by omega) NA.out]; exact c0
      have c21 : w2.cell? ⟨wr.heap.size, 1, none⟩ = some (.string V1) := by rw [G2.cell _ (by omega) NA.out]; exact c1
      have n2 := G2.ne (b := wr.heap.size) (by omega) NA.out
      have s2 := G2.size
      have C2 := hide (put32_any V1.size base v2 _ _ w2 o2 (by omega) (by omega))
      have GG2 := hide (GA.out.trans G2)
      have N2 := hide n2
      clear o2 G2 n2
      go_wp2_with fail
      refine Calls.mono C2.out ?_
      rintro e w3 ⟨v3, rfl, o3, G3⟩
      have c30 : w3.cell? ⟨wr.heap.size, 0, none⟩ = some (.string K1) := by rw [G3.cell _ (by omega) N2.out]; exact c20
      have c31 : w3.cell? ⟨wr.heap.size, 1, none⟩ = some (.string V1) := by rw [G3.cell _ (by omega) N2.out]; exact c21
      have n3 := G3.ne (b := wr.heap.size) (by omega) N2.out
      have s3 := G3.size
      obtain ⟨g3, cap3, rfl, hg3⟩ := row_some o3 (by omega)
      have GG3 := hide (GG2.out.trans G3)
      have N3 := hide n3
      have O3 := hide o3
      clear o3 G3 n3
      go_wp2_with (first
        | (at_builtin; refine wpList_appStr rfl _ _ rfl base g3 _ cap3 _ K1 rfl rfl O3.out (by omega) (by omega) ?_; intro v4 w4 o4 G4; obtain ⟨g4, cap4, rfl, hg4⟩ := row_some o4 (by omega); have c41 : w4.cell? ⟨wr.heap.size, 1, none⟩ = some (.string V1) := (G4.cell _ (by omega) N3.out).trans c31; have s4 := G4.size; have GG4 := hide (GG3.out.trans G4); have O4 := hide o4; clear o4 G4)
        | (at_builtin; refine wpList_appStr rfl _ _ rfl base g4 _ cap4 _ V1 rfl rfl O4.out (by omega) (by omega) ?_; intro v5 w5 o5 G5; have GG5 := hide (GG4.out.trans G5); have O5 := hide o5; clear o5 G5))
      go_roundw
      case rel =>
        refine ⟨k + 1, by omega, by go_num, ?_, GG5.out⟩
        have := O5.out
        rw [HT.out, HB.out]
        rw [← HXS.out] at this
        rw [show m + (2 + (Z + (6 + K1.size + V1.size))) = m + (2 + Z) + 2 + 4 + K1.size + V1.size by omega]
        simp only [List.map_append, List.append_assoc] at this ⊢
        exact this
      case measure => simp [intOf]; omega
    · obtain rfl : k = ps.length := by omega
      rw [List.take_length] at hown
      have HOWN := hide hown
      have HG := hide hg
      clear hown hg hl hsm
      go_wp2
      go_ret
      exact ⟨_, rfl, HOWN.out, HG.out⟩
theorem fine {ps : List KV} (h : errL ps = 0) : ps.length ≤ 512 ∧ 0 < ps.length ∧ 2 + sizeL ps ≤ 65536 ∧ ∀ i (h : i < ps.length), ps[i].1.size ≤ 255 ∧ ps[i].2.size ≤ 4096 := by
  by_cases hg : ps.length = 0 ∨ 512 < ps.length
  · rw [(wrong_group hg).2] at h; omega
  · have hall : ∀ j, j < ps.length → badAt ps j = 0 := by
      intro j
      induction j using Nat.strongRecOn with
      | ind j ih =>
        intro hj
        by_cases hb : badAt ps j = 0
        · exact hb
        · have := (wrong_at hg hj (fun i hi => ih i hi (by omega)) hb).2
          rw [h] at this
          exact this.symm
    have e := (wrong_none hg hall).2
    rw [h] at e
    refine ⟨by omega, by omega, ?_, fun i hi => ⟨(badAt_small hi (hall i hi)).2.1, (badAt_small hi (hall i hi)).2.2⟩⟩
    by_cases hz : 65536 < 2 + sizeL ps
    · rw [if_pos hz] at e; omega
    · omega
/-- what both Records answer -/
def recS (ps : List KV) : ByteArray := if errL ps = 0 then strOf (recL ps) else ⟨#[]⟩
theorem recS_ok {ps : List KV} (h : errL ps = 0) : recS ps = strOf (recL ps) := by unfold recS; rw [if_pos h]
theorem recS_bad {ps : List KV} (h : errL ps ≠ 0) : recS ps = ⟨#[]⟩ := by unfold recS; rw [if_neg h]
set_option maxHeartbeats 2000000 in
set_option maxRecDepth 100000 in
/-- Record -/
theorem record_any (ao : Option Addr) (b off cap : Nat) (ps : List KV) (w : World) (hao : 0 < ps.length → ao = some ⟨b, off, none⟩) (hb : 0 < ps.length → b < w.heap.size) (hlen : ps.length ≤ 1099511627776000) (hl : LiesP b off w ps) :
    Calls Try.prog 23 #[.slice ao ps.length cap] w fun e w' => e = .returned (.tuple #[.string (recS ps), .int .i64 (errL ps)]) ∧ Below w.heap.size w w' := by
  have W := hide (weigh_any ao b off cap ps w hao hb hlen hl)
  by_cases he : errL ps = 0
  · obtain ⟨h5, hpos, hz, hsm⟩ := fine he
    obtain ⟨i0, hi, hz0, hz1, hz2⟩ := info_parts info5
    rw [he, recS_ok he]
    rw [wSize_ok he, he] at W
    obtain rfl := hao hpos
    have hb' := hb hpos
    have hlen2 := recL_len ps
    have HSM := hide hsm
    have HL := hide hl
    clear hsm hl hao hb he
    generalize sizeL ps = Z at *
    go_enter Try.func23, Try.ntmps23
    go_wp2_with fail
    refine Calls.mono W.out ?_
    rintro e w1 ⟨rfl, hb1⟩
    have s1 := hb1.size
    go_wp2_with (at_make; refine wpList_make_own _ rfl _ _ 76 rfl w1.heap.size 5 i0 (.int .u8 0) 1 Try.underlying76 hi hz0 hz1 _ _ _ (2 + Z) rfl rfl (by omega) (by rw [hz2]; omega) (by unfold maxLen; omega) (Nat.le_refl _) ?_)
    intro w2 hown2 hgrow2
    have B2 : Below w1.heap.size w1 w2 := (Below.refl _ w1).grown hgrow2 (Nat.le_refl _) (by simp)
    have B12 := hb1.trans (B2.mono s1)
    have s2 := B2.size
    have C := hide (write_any w1.heap.size _ 0 [] (some ⟨b, off, none⟩) b off cap ps w2 hown2 (by omega) s2 (fun _ => rfl) (fun _ => by omega) h5 HSM.out (HL.out.below hb' B12))
    go_wp2_with fail
    refine Calls.mono C.out ?_
    rintro e w3 ⟨v3, rfl, o3, G3⟩
    have hc := own_conv (P := Try.prog) (src := 76) (dst := 9) (l := recL ps) o3 (by rw [recL_len]; omega) Try.underlying76 Try.underlying5 Try.underlying9
    have B3 := B12.trans (G3.below (B := w.heap.size) (by omega) (fun k hk => by have := (hown2.lt k hk).1; omega))
    have HB3 := hide B3
    clear B3 G3 o3 hown2 hgrow2
    go_wp2
    go_ret2
    exact ⟨rfl, HB3.out⟩
  · have HE := hide he
    rw [recS_bad he]
    rw [wSize_bad he] at W
    have hne : (errL ps != 0) = true := by simpa using he
    clear hl hao hb
    generalize errL ps = E at *
    clear he
    go_enter Try.func23, Try.ntmps23
    go_wp2_with fail
    refine Calls.mono W.out ?_
    rintro e w1 ⟨rfl, hb1⟩
    go_wp2_with fail
    go_ret2
    exact ⟨rfl, hb1⟩
end Go.Proofs.Ythihmgdefbahpaa
namespace Go.Proofs.Ythihmgdefbahpaa
open Go.RowKit
theorem less_irrefl (a : List UInt8) : Op.bytesLess a a = false := by
  induction a with
  | nil => rfl
  | cons x a ih => unfold Op.bytesLess; simp [ih]
theorem less_trans {a b c : List UInt8} (h1 : Op.bytesLess a b = true) (h2 : Op.bytesLess b c = true) : Op.bytesLess a c = true := by
  induction a generalizing b c with
  | nil =>
    cases c with
    | nil => cases b with
      | nil => exact h1
      | cons y b => simp [Op.bytesLess] at h2
    | cons z c => rfl
  | cons x a ih =>
    cases b with
    | nil => simp [Op.bytesLess] at h1
    | cons y b =>
      cases c with
      | nil => simp [Op.bytesLess] at h2
      | cons z c =>
        unfold Op.bytesLess at h1 h2 ⊢
        simp only [Bool.or_eq_true, decide_eq_true_eq, Bool.and_eq_true, beq_iff_eq, UInt8.lt_iff_toNat_lt] at h1 h2 ⊢
        rcases h1 with h1 | ⟨rfl, h1⟩
        · rcases h2 with h2 | ⟨rfl, h2⟩
          · left; omega
          · left; exact h1
        · rcases h2 with h2 | ⟨rfl, h2⟩
          · left; exact h2
          · right; exact ⟨rfl, ih h1 h2⟩
theorem less_total (a b : List UInt8) : a = b ∨ Op.bytesLess a b = true ∨ Op.bytesLess b a = true := by
  induction a generalizing b with
  | nil => cases b with
    | nil => exact .inl rfl
    | cons y b => exact .inr (.inl rfl)
  | cons x a ih =>
    cases b with
    | nil => exact .inr (.inr rfl)
    | cons y b =>
      unfold Op.bytesLess
      simp only [Bool.or_eq_true, decide_eq_true_eq, Bool.and_eq_true, beq_iff_eq, UInt8.lt_iff_toNat_lt]
      rcases Nat.lt_trichotomy x.toNat y.toNat with h | h | h
      · exact .inr (.inl (.inl h))
      · rw [UInt8.toNat_inj] at h
        subst h
        rcases ih b with rfl | h | h
        · exact .inl rfl
        · exact .inr (.inl (.inr ⟨rfl, h⟩))
        · exact .inr (.inr (.inr ⟨rfl, h⟩))
      · exact .inr (.inr (.inl h))
theorem toList_inj {a b : ByteArray} (h : a.toList = b.toList) : a = b := by
  rw [ByteArray.toList_eq, ByteArray.toList_eq] at h
  exact ByteArray.ext (Array.toList_inj.1 h)
theorem lessS_irrefl (a : ByteArray) : lessS a a = false := less_irrefl _
theorem lessS_trans {a b c : ByteArray} (h1 : lessS a b = true) (h2 : lessS b c = true) : lessS a c = true := less_trans h1 h2
theorem lessS_total (a b : ByteArray) : a = b ∨ lessS a b = true ∨ lessS b a = true := by
  rcases less_total a.toList b.toList with h | h | h
  · exact .inl (toList_inj h)
  · exact .inr (.inl h)
  · exact .inr (.inr h)
/-- texts that rise -/
def Rises (n : Nat) (ks : Nat → ByteArray) : Prop := ∀ i, i + 1 < n → lessS (ks i) (ks (i + 1)) = true
theorem Rises.lt {n : Nat} {ks : Nat → ByteArray} (h : Rises n ks) : ∀ j i, i < j → j < n → lessS (ks i) (ks j) = true := by
  intro j
  induction j with
  | zero => intro i h1 _; omega
  | succ j ih =>
    intro i h1 h2
    rcases Nat.lt_or_ge i j with hl | hl
    · exact lessS_trans (ih i hl (by omega)) (h j h2)
    · obtain rfl : i = j := by omega
      exact h i h2
theorem Rises.inj {n : Nat} {ks : Nat → ByteArray} (h : Rises n ks) {i j : Nat} (hi : i < n) (hj : j < n) (e : ks i = ks j) : i = j := by
  rcases Nat.lt_trichotomy i j with hl | hl | hl
  · have := h.lt j i hl hj; rw [e, lessS_irrefl] at this; cases this
  · exact hl
  · have := h.lt i j hl hi; rw [e, lessS_irrefl] at this; cases this
/-- the place that the search by halves ends at -/
theorem search_end {n : Nat} {ks : Nat → ByteArray} (h : Rises n ks) {x : ByteArray} {i : Nat} (hi : i ≤ n) (h1 : ∀ t, t < i → lessS (ks t) x = true) (h2 : ∀ t, i ≤ t → t < n → lessS (ks t) x = false) {j : Nat} (hj : j < n) (e : ks j = x) : j = i := by
  rcases Nat.lt_trichotomy j i with hl | hl | hl
  · have := h1 j hl; rw [e, lessS_irrefl] at this; cases this
  · exact hl
  · have h3 := h.lt j i hl hj
    rw [e] at h3
    have h4 := h2 i (Nat.le_refl _) (by omega)
    rw [h3] at h4; cases h4
theorem search_up {n : Nat} {ks : Nat → ByteArray} (h : Rises n ks) {x : ByteArray} {m : Nat} (hm : m < n) (hl : lessS (ks m) x = true) : ∀ t, t ≤ m → lessS (ks t) x = true := by
  intro t ht
  rcases Nat.lt_or_ge t m with h1 | h1
  · exact lessS_trans (h.lt m t h1 hm) hl
  · obtain rfl : t = m := by omega
    exact hl
theorem search_down {n : Nat} {ks : Nat → ByteArray} (h : Rises n ks) {x : ByteArray} {m : Nat} (hl : lessS (ks m) x = false) : ∀ t, m ≤ t → t < n → lessS (ks t) x = false := by
  intro t ht hn
  cases hc : lessS (ks t) x with
  | false => rfl
  | true =>
    rcases Nat.lt_or_ge m t with h1 | h1
    · have := lessS_trans (h.lt t m h1 hn) hc; rw [hl] at this; cases this
    · obtain rfl : t = m := by omega
      rw [hl] at hc; cases hc
/-- keys of a right record rise -/
theorem keys_rise {ps : List KV} (h : errL ps = 0) : Rises ps.length (fun i => (ps.getD i default).1) := by
  have hg : ¬ (ps.length = 0 ∨ 512 < ps.length) := by obtain ⟨a, b, _⟩ := fine h; omega
  have hall : ∀ j, j < ps.length → badAt ps j = 0 := by
    intro j
    induction j using Nat.strongRecOn with
    | ind j ih =>
      intro hj
      by_cases hb : badAt ps j = 0
      · exact hb
      · have := (wrong_at hg hj (fun i hi => ih i hi (by omega)) hb).2
        rw [h] at this
        exact this.symm
  intro i hi
  have hb := hall (i + 1) hi
  have hs := badAt_small hi hb
  unfold badAt badP at hb
  rw [if_neg (by omega : ¬ i + 1 = 0), show i + 1 - 1 = i by omega] at hb
  rw [getD_at hi] at hb
  rw [if_neg (by omega), if_neg (by omega), badQ] at hb
  simp only
  rw [getD_at hi]
  rcases lessS_total (ps.getD i default).1 ps[i + 1].1 with e | e | e
  · rw [if_pos e.symm] at hb; omega
  · exact e
  · by_cases hq : ps[i + 1].1 = (ps.getD i default).1
    · rw [if_pos hq] at hb; omega
    · rw [if_neg hq, if_pos e] at hb; omega
end Go.Proofs.Ythihmgdefbahpaa
namespace Go.Proofs.Ythihmgdefbahpaa
open Go.RowKit
/-- what a search says -/
def FoundAt (n : Nat) (ks : Nat → ByteArray) (x : ByteArray) (i : Nat) (f : Bool) : Prop := (f = true → i < n ∧ ks i = x) ∧ (f = false → ∀ t, t < n → ks t ≠ x)
def BsSays (n : Nat) (ks : Nat → ByteArray) (x : ByteArray) (e : Ending) : Prop := ∃ (i : Nat) (f : Bool), e = .returned (.tuple #[.int .i64 (i : Int), .bool f]) ∧ FoundAt n ks x i f
theorem found_no {n : Nat} {ks : Nat → ByteArray} {x : ByteArray} {i : Nat} (h : ∀ t, t < n → ks t ≠ x) : FoundAt n ks x i false := ⟨fun k => Bool.noConfusion k, fun _ => h⟩
theorem found_yes {n : Nat} {ks : Nat → ByteArray} {x : ByteArray} {i : Nat} (h : i < n) (e : ks i = x) : FoundAt n ks x i true := ⟨fun _ => ⟨h, e⟩, fun k => Bool.noConfusion k⟩
def cmpI (k x : ByteArray) : Int := if k = x then 0 else if lessS k x then -1 else 1
theorem cmpI_zero {k x : ByteArray} : cmpI k x = 0 ↔ k = x := by
  unfold cmpI
  by_cases h : k = x
  · simp [h]
  · rw [if_neg h]
    constructor
    · intro e; split at e <;> omega
    · intro e; exact absurd e h
theorem cmpI_neg {k x : ByteArray} : cmpI k x < 0 ↔ lessS k x = true := by
  unfold cmpI
  by_cases h : k = x
  · subst h; simp [lessS_irrefl]
  · rw [if_neg h]
    by_cases h2 : lessS k x = true
    · simp [h2]
    · simp only [Bool.not_eq_true] at h2; simp [h2]
set_option maxHeartbeats 1000000 in
set_option maxRecDepth 100000 in
set_option linter.unusedSimpArgs false in
/-- the closure of find, of pairs -/
theorem cmpP_any (k v x : ByteArray) (T : Nat) (w : World) (hT : w.cell? ⟨T, 0, none⟩ = some (.func (.func 38) #[] #[])) (hlt : T < w.heap.size) :
    Calls Try.prog 59 #[.agg #[.string k, .string v], .string x, .pointer (some ⟨T, 0, none⟩)] w fun e w' => e = .returned (.int .i64 (cmpI k x)) ∧ Below w.heap.size w w' := by
  have CM : Hid (∀ w', Calls Try.prog 57 #[.string k, .string x] w' fun e w'' => e = .returned (.int .i64 (cmpI k x)) ∧ w' = w'') := fun w' => compare_any k x w'
  generalize cmpI k x = Z at *
  go_enter Try.func59, Try.ntmps59
  go_wp2_with fail
  refine Calls.mono (pairKey_any _ _ _) ?_
  rintro e w1 ⟨rfl, hb1⟩
  have B1 := hide (((Below.refl w.heap.size w).alloc (Nat.le_refl _) (.cells #[.string k, .string v] 65)).trans (hb1.mono (by simp)))
  clear hb1
  go_wp2_with fail
  refine Calls.mono (CM.out _) ?_
  rintro e w2 ⟨rfl, rfl⟩
  go_wp2
  go_ret
  exact ⟨rfl, B1.out⟩
set_option maxHeartbeats 2000000 in
set_option maxRecDepth 100000 in
set_option linter.unusedSimpArgs false in
/-- slices.BinarySearchFunc, of pairs by their keys -/
theorem bsP_any (ao : Option Addr) (b off cap : Nat) (ps : List KV) (x : ByteArray) (T : Nat) (w : World) (hao : 0 < ps.length → ao = some ⟨b, off, none⟩) (hb : 0 < ps.length → b < w.heap.size) (hl : LiesP b off w ps) (hlen : ps.length ≤ 1048576) (hr : Rises ps.length (fun i => (ps.getD i default).1))
    (hT : w.cell? ⟨T, 0, none⟩ = some (.func (.func 38) #[] #[])) (hlt : T < w.heap.size) :
    Calls Try.prog 58 #[.slice ao ps.length cap, .string x, .func (.func 59) #[] #[.pointer (some ⟨T, 0, none⟩)]] w
      fun e w' => BsSays ps.length (fun t => (ps.getD t default).1) x e ∧ Below w.heap.size w w' := by
  have HL := hide hl
  have HR := hide hr
  have CMP : Hid (∀ t, t < ps.length → ∀ w', Below w.heap.size w w' → Calls Try.prog 59 #[.agg #[.string (ps.getD t default).1, .string (ps.getD t default).2], .string x, .pointer (some ⟨T, 0, none⟩)] w' fun e w'' => e = .returned (.int .i64 (cmpI (ps.getD t default).1 x)) ∧ Below w'.heap.size w' w'') := fun t _ w' hw => cmpP_any _ _ _ T w' (by rw [hw.cell (by exact hlt)]; exact hT) (Nat.lt_of_lt_of_le hlt hw.size)
  clear hl hr hT
  go_enter Try.func58, Try.ntmps58
  go_wp2_with fail
  go_loopw [9, 10] (fun i j wr => ∃ lo hi : Nat, i = .int .i64 (lo : Int) ∧ j = .int .i64 (hi : Int) ∧ lo ≤ hi ∧ hi ≤ ps.length ∧ (∀ t, t < lo → lessS (ps.getD t default).1 x = true) ∧ (∀ t, hi ≤ t → t < ps.length → lessS (ps.getD t default).1 x = false) ∧ Below w.heap.size w wr)
    (fun i j _ => (intOf j - intOf i).toNat)
  case atStart => exact ⟨0, ps.length, rfl, rfl, Nat.zero_le _, Nat.le_refl _, fun t ht => by omega, fun t h1 h2 => by omega, Below.refl _ _⟩
  case round =>
    obtain ⟨lo, hi, rfl, rfl, h1, h2, hlo, hhi, hnx⟩ := hrel
    have HLO := hide hlo
    have HHI := hide hhi
    have HNX := hide hnx
    clear hlo hhi
    by_cases hc : lo < hi
    · obtain ⟨m, hm⟩ : ∃ m, m = (lo + hi) / 2 := ⟨_, rfl⟩
      have hm1 : lo ≤ m := by omega
      have hm2 : m < hi := by omega
      have hml : m < ps.length := by omega
      obtain rfl := hao (by omega)
      have hb' := hb (by omega)
      obtain ⟨g0, g1⟩ := HL.out.below hb' hnx m hml
      rw [← getD_at hml] at g0 g1
      have hu : IntKind.u64.wrap ((lo : Int) + (hi : Int)) = (lo : Int) + (hi : Int) := by simp [IntKind.wrap, IntKind.signed, IntKind.bits]; omega
      have hh : ((lo : Int) + (hi : Int)) / 2 = (m : Int) := by omega
      have hmi : (m : Int) < (ps.length : Int) := by omega
      have C1 := hide (CMP.out m hml wr hnx)
      have UP := hide (search_up HR.out (x := x) hml)
      have DN := hide (search_down HR.out (x := x) (m := m))
      have HM := hide hm
      have hcl : (lo : Int) < (hi : Int) := by omega
      clear hm hnx
      generalize hK : (ps.getD m default).1 = K1 at *
      generalize (ps.getD m default).2 = V1 at *
      have HK := hide hK
      clear hK
      have hsz := HNX.out.size
      go_wp2_with fail
      refine Calls.mono C1.out ?_
      rintro e w1 ⟨rfl, hb1⟩
      have B1 := hide (HNX.out.trans (hb1.mono hsz))
      clear hb1
      by_cases hz : cmpI K1 x < 0
      · have hls := cmpI_neg.1 hz
        have HUP : Hid (∀ t, t ≤ m → lessS (ps.getD t default).1 x = true) := UP.out hls
        clear hls
        go_wp2_with fail
        go_roundw
        case rel =>
          refine ⟨m + 1, hi, by go_num, rfl, by omega, h2, fun t ht => HUP.out t (by omega), HHI.out, B1.out⟩
        case measure => simp [intOf]; omega
      · have hls : lessS K1 x = false := by
          cases hq : lessS K1 x with
          | false => rfl
          | true => exact absurd (cmpI_neg.2 hq) hz
        have HDN : Hid (∀ t, m ≤ t → t < ps.length → lessS (ps.getD t default).1 x = false) := DN.out hls
        clear hls
        go_wp2_with fail
        go_roundw
        case rel =>
          refine ⟨lo, m, rfl, rfl, hm1, by omega, HLO.out, HDN.out, B1.out⟩
        case measure => simp [intOf]; omega
    · obtain rfl : lo = hi := by omega
      have END := hide (fun j (hj : j < ps.length) (e : (ps.getD j default).1 = x) => search_end HR.out h2 HLO.out HHI.out hj e)
      have hcl : ¬ (lo : Int) < (lo : Int) := by omega
      by_cases hn : lo < ps.length
      · obtain rfl := hao (by omega)
        have hb' := hb (by omega)
        obtain ⟨g0, g1⟩ := HL.out.below hb' hnx lo hn
        rw [← getD_at hn] at g0 g1
        have C1 := hide (CMP.out lo hn wr hnx)
        have hni : (lo : Int) < (ps.length : Int) := by omega
        have hsz := hnx.size
        clear hnx
        generalize hK : (ps.getD lo default).1 = K1 at *
        generalize (ps.getD lo default).2 = V1 at *
        have HK := hide hK
        clear hK
        go_wp2_with fail
        refine Calls.mono C1.out ?_
        rintro e w1 ⟨rfl, hb1⟩
        have B1 := hide (HNX.out.trans (hb1.mono hsz))
        clear hb1
        by_cases hz : cmpI K1 x = 0
        · have HF : Hid (FoundAt ps.length (fun t => (ps.getD t default).1) x lo true) := found_yes hn (HK.out.trans (cmpI_zero.1 hz))
          have hzb : (cmpI K1 x == 0) = true := by rw [hz]; rfl
          clear hz
          go_wp2_with fail
          go_ret2
          exact ⟨⟨_, true, rfl, HF.out⟩, B1.out⟩
        · have HF : Hid (FoundAt ps.length (fun t => (ps.getD t default).1) x lo false) := by
            refine found_no (fun t ht e => ?_)
            have e2 := END.out t ht e
            rw [e2] at e
            exact hz (cmpI_zero.2 (HK.out.symm.trans e))
          have hzb : (cmpI K1 x == 0) = false := by simpa using hz
          clear hz
          go_wp2_with fail
          go_ret2
          exact ⟨⟨_, false, rfl, HF.out⟩, B1.out⟩
      · have HF : Hid (FoundAt ps.length (fun t => (ps.getD t default).1) x lo false) := by
          refine found_no (fun t ht e => ?_)
          have e2 := END.out t ht e
          omega
        have hni : ¬ (lo : Int) < (ps.length : Int) := by omega
        clear hnx
        go_wp2_with fail
        go_ret2
        exact ⟨⟨_, false, rfl, HF.out⟩, HNX.out⟩
end Go.Proofs.Ythihmgdefbahpaa
namespace Go.Proofs.Ythihmgdefbahpaa
open Go.RowKit
/-- the pair of a key, or none -/
def pairFor (ps : List KV) (x : ByteArray) : Option KV := ps.find? (fun p => decide (p.1 = x))
theorem pairFor_some {ps : List KV} {x : ByteArray} {i : Nat} (hr : Rises ps.length (fun t => (ps.getD t default).1)) (hi : i < ps.length) (e : (ps.getD i default).1 = x) : pairFor ps x = some ps[i] := by
  unfold pairFor
  rw [List.find?_eq_some_iff_getElem]
  rw [getD_at hi] at e
  refine ⟨by simpa using e, i, hi, rfl, fun j hj => ?_⟩
  simp only [Bool.not_eq_true', decide_eq_false_iff_not]
  intro e2
  have := hr.inj (i := j) (j := i) (by omega) hi (by show (ps.getD j default).1 = (ps.getD i default).1; rw [getD_at (by omega), getD_at hi, e2, e])
  omega
theorem pairFor_none {ps : List KV} {x : ByteArray} (h : ∀ t, t < ps.length → (ps.getD t default).1 ≠ x) : pairFor ps x = none := by
  unfold pairFor
  rw [List.find?_eq_none]
  intro p hp
  obtain ⟨i, hi, rfl⟩ := List.getElem_of_mem hp
  have := h i hi
  rw [getD_at hi] at this
  simpa using this
def pairForV (ps : List KV) (x : ByteArray) : Value := match pairFor ps x with | some p => .agg #[.string p.1, .string p.2] | none => .agg #[.string ⟨#[]⟩, .string ⟨#[]⟩]
def pairForB (ps : List KV) (x : ByteArray) : Bool := (pairFor ps x).isSome
set_option maxHeartbeats 1000000 in
set_option maxRecDepth 100000 in
set_option linter.unusedSimpArgs false in
/-- find of pairs -/
theorem findP_any (ao : Option Addr) (b off cap : Nat) (ps : List KV) (x : ByteArray) (w : World) (hao : 0 < ps.length → ao = some ⟨b, off, none⟩) (hb : 0 < ps.length → b < w.heap.size) (hl : LiesP b off w ps) (hlen : ps.length ≤ 1048576) (hr : Rises ps.length (fun i => (ps.getD i default).1)) :
    Calls Try.prog 37 #[.slice ao ps.length cap, .string x, .func (.func 38) #[] #[]] w fun e w' => e = .returned (.tuple #[pairForV ps x, .bool (pairForB ps x)]) ∧ Below w.heap.size w w' := by
  go_enter Try.func37, Try.ntmps37
  obtain ⟨W2, hW2⟩ : ∃ W2, W2 = (w.alloc (.cells #[.func (.func 38) #[] #[]] 85)).alloc (.cells #[.string ⟨#[]⟩, .string ⟨#[]⟩] 65) := ⟨_, rfl⟩
  have s2 : W2.heap.size = w.heap.size + 2 := by rw [hW2]; simp
  have b2 : Below w.heap.size w W2 := by rw [hW2]; exact ((Below.refl _ w).alloc (Nat.le_refl _) _).alloc (by simp) _
  have kt : W2.cell? ⟨w.heap.size, 0, none⟩ = some (.func (.func 38) #[] #[]) := by rw [hW2]; simp
  have k0 : W2.cell? ⟨w.heap.size + 1, 0, none⟩ = some (.string ⟨#[]⟩) := by rw [hW2]; simp
  have k1 : W2.cell? ⟨w.heap.size + 1, 1, none⟩ = some (.string ⟨#[]⟩) := by rw [hW2]; simp
  have f0 : W2.frozen? ⟨w.heap.size + 1, 0, none⟩ = false := by rw [hW2]; simp
  have f1 : W2.frozen? ⟨w.heap.size + 1, 1, none⟩ = false := by rw [hW2]; simp
  have HL := hide (fun w' (hb' : Below w.heap.size w w') (h : 0 < ps.length) => hl.below (hb h) hb')
  have BS := hide (bsP_any ao b off cap ps x w.heap.size W2 hao (fun h => Nat.lt_of_lt_of_le (hb h) b2.size) (fun i hi => HL.out W2 b2 (by omega) i hi) hlen hr kt (by omega))
  have HB2 := hide b2
  have KK : Hid (∀ w', Below W2.heap.size W2 w' → (World.cell? w' ⟨w.heap.size + 1, 0, none⟩ = some (.string ⟨#[]⟩) ∧ World.cell? w' ⟨w.heap.size + 1, 1, none⟩ = some (.string ⟨#[]⟩)) ∧ World.frozen? w' ⟨w.heap.size + 1, 0, none⟩ = false ∧ World.frozen? w' ⟨w.heap.size + 1, 1, none⟩ = false) := fun w' hw => by
    have hl2 : w.heap.size + 1 < W2.heap.size := by omega
    rw [hw.cell (by exact hl2), hw.cell (by exact hl2), hw.frozen (by exact hl2), hw.frozen (by exact hl2)]
    exact ⟨⟨k0, k1⟩, f0, f1⟩
  have HR := hide hr
  clear b2 kt k0 k1 f0 f1 hl hr
  go_wp2_with fail
  rw [← hW2]
  refine Calls.mono BS.out ?_
  rintro e w3 ⟨⟨i, f, rfl, hf⟩, hb3⟩
  obtain ⟨⟨q0, q1⟩, q2, q3⟩ := KK.out w3 hb3
  have B3 := hide (HB2.out.trans (hb3.mono (by omega)))
  have s3 := hb3.size
  clear hb3 hW2
  cases f with
  | true =>
    obtain ⟨hi, e1⟩ := hf.1 rfl
    obtain rfl := hao (by omega)
    have hb' := hb (by omega)
    obtain ⟨g0, g1⟩ := HL.out w3 B3.out (by omega) i hi
    have hp := pairFor_some HR.out hi e1
    have HV : Hid (pairForV ps x = .agg #[.string ps[i].1, .string ps[i].2]) := by
      have e : pairForV ps x = .agg #[.string ps[i].1, .string ps[i].2] := by unfold pairForV; rw [hp]
      exact e
    have HF : Hid (pairForB ps x = true) := by
      have e : pairForB ps x = true := by unfold pairForB; rw [hp]; rfl
      exact e
    have hii : (i : Int) < (ps.length : Int) := by omega
    clear hf e1 hp
    generalize ps[i].1 = K1 at *
    generalize ps[i].2 = V1 at *
    go_wp2_with fail
    refine bodyPost_ret (v := .tuple #[.agg #[.string K1, .string V1], .bool true]) ?_ rfl ⟨by rw [HV.out, HF.out], ?_⟩
    · rw [results_cell_tmp rfl]
      go_simp
    · first
        | exact (B3.out.setCell (by simp) _).setCell (by simp) _
        | exact ((B3.out.drew).setCell (by simp) _).setCell (by simp) _
  | false =>
    have hp := pairFor_none (hf.2 rfl)
    have HV : Hid (pairForV ps x = .agg #[.string ⟨#[]⟩, .string ⟨#[]⟩]) := by
      have e : pairForV ps x = .agg #[.string ⟨#[]⟩, .string ⟨#[]⟩] := by unfold pairForV; rw [hp]
      exact e
    have HF : Hid (pairForB ps x = false) := by
      have e : pairForB ps x = false := by unfold pairForB; rw [hp]; rfl
      exact e
    clear hf hp
    have hz : w.heap.size + 1 < w3.heap.size := by omega
    have BN : Below w3.heap.size w3 (w3.alloc (.cells #[.string ⟨#[]⟩, .string ⟨#[]⟩] 65)) := (Below.refl _ w3).alloc (Nat.le_refl _) _
    have n0 : (w3.alloc (.cells #[.string ⟨#[]⟩, .string ⟨#[]⟩] 65)).cell? ⟨w.heap.size + 1, 0, none⟩ = some (.string ⟨#[]⟩) := by rw [BN.cell (by exact hz)]; exact q0
    have n1 : (w3.alloc (.cells #[.string ⟨#[]⟩, .string ⟨#[]⟩] 65)).cell? ⟨w.heap.size + 1, 1, none⟩ = some (.string ⟨#[]⟩) := by rw [BN.cell (by exact hz)]; exact q1
    have n2 : (w3.alloc (.cells #[.string ⟨#[]⟩, .string ⟨#[]⟩] 65)).frozen? ⟨w.heap.size + 1, 0, none⟩ = false := by rw [BN.frozen (by exact hz)]; exact q2
    have n3 : (w3.alloc (.cells #[.string ⟨#[]⟩, .string ⟨#[]⟩] 65)).frozen? ⟨w.heap.size + 1, 1, none⟩ = false := by rw [BN.frozen (by exact hz)]; exact q3
    have B4 := hide (B3.out.trans (BN.mono (by omega)))
    have hz1 : ¬ (w.heap.size + 1 = w3.heap.size) := by omega
    have hz2 : ¬ (w3.heap.size = w.heap.size + 1) := by omega
    clear BN
    go_wp2_with fail
    refine bodyPost_ret (v := .tuple #[.agg #[.string ⟨#[]⟩, .string ⟨#[]⟩], .bool false]) ?_ rfl ⟨by rw [HV.out, HF.out], ?_⟩
    · rw [results_cell_tmp rfl]
      go_simp
    · first
        | exact ((B3.out.setCell (by simp) _).setCell (by simp) _).alloc (by simp; omega) _
        | exact (((B3.out.setCell (by simp) _).alloc (by simp; omega) _).setCell (by simp) _)
        | exact (B4.out.setCell (by simp) _).setCell (by simp) _
        | trace_state
end Go.Proofs.Ythihmgdefbahpaa
namespace Go.Proofs.Ythihmgdefbahpaa
theorem str_small {s : ByteArray} (h : s.data.toList.length ≤ reachBytes) : s.size ≤ 140737488351232 := by
  rw [size_data] at h; exact h
theorem int_in {n : Int} (h : (Lit.int .i64 n).wf = true) : -9223372036854775808 ≤ n ∧ n ≤ 9223372036854775807 := by
  simp only [Lit.wf, Bool.and_eq_true, decide_eq_true_eq] at h
  exact h
end Go.Proofs.Ythihmgdefbahpaa
namespace Go.Proofs.Ythihmgdefbahpaa
open Go.RowKit
theorem strOf_app (a b : List UInt8) : strOf (a ++ b) = strOf a ++ strOf b := by
  unfold strOf
  apply ByteArray.ext
  simp
theorem one_conv (w : World) (b : UInt8) : (convert 76 9 (.slice (some ⟨w.heap.size, 0, none⟩) 1 1)).run Try.prog (w.alloc (.cells #[.int .u8 (b.toNat : Int)] 5)) = .ok (.string (strOf [b])) (w.alloc (.cells #[.int .u8 (b.toNat : Int)] 5)) :=
  run_convert_bytes_back _ 76 9 5 ⟨w.heap.size, 0, none⟩ 1 [b] Try.underlying76 Try.underlying5 Try.underlying9 (fun j hj => by
    have := cell_one_new w (.int .u8 (b.toNat : Int)) 5 j (.int .u8 (b.toNat : Int)) (by simp at hj; subst hj; rfl)
    rw [this]
    simp at hj; subst hj; rfl)
theorem strOf_cons (b : UInt8) (l : List UInt8) : strOf (b :: l) = strOf [b] ++ strOf l := strOf_app [b] l
set_option maxHeartbeats 1000000 in
set_option maxRecDepth 100000 in
/-- the document's digits -/
theorem digits_any (n k : Nat) (hn : n < 9223372036854775808) (hk : k ≤ 4) (w : World) :
    Calls Try.prog 46 #[.int .i64 (n : Int), .int .i64 (k : Int)] w fun e w' => e = .returned (.string (strOf (dig k n))) ∧ Below w.heap.size w w' := by
  go_enter Try.func46, Try.ntmps46
  go_wp2
  go_loopw [0, 5, 6] (fun x s i wr => ∃ j : Nat, j ≤ k ∧ i = .int .i64 (j : Int) ∧ x = .int .i64 ((n / 256 ^ j : Nat) : Int) ∧ s = .string (strOf (dig j n)) ∧ Below w.heap.size w wr)
    (fun _ _ i _ => k - (intOf i).toNat)
  case atStart => exact ⟨0, by omega, rfl, by simp, rfl, Below.refl _ _⟩
  case round =>
    obtain ⟨j, hj, rfl, rfl, rfl, hb⟩ := hrel
    by_cases hlt : j < k
    · have hd := dig_cons j n
      rw [show dig (j + 1) n = UInt8.ofNat (n / 256 ^ j) :: dig j n from hd] at hd
      have hs : strOf (dig (j + 1) n) = strOf [UInt8.ofNat (n / 256 ^ j)] ++ strOf (dig j n) := by rw [dig_cons, strOf_cons]
      have hm : n / 256 ^ j < 9223372036854775808 := Nat.lt_of_le_of_lt (Nat.div_le_self _ _) hn
      have he : n / 256 ^ (j + 1) = n / 256 ^ j / 256 := by rw [Nat.pow_succ, Nat.div_div_eq_div_mul]
      clear hd
      have hlen : (strOf (dig j n)).size ≤ 4 := by rw [strOf_size, dig_len]; omega
      generalize n / 256 ^ j = N at *
      have hu : IntKind.u8.wrap ((N : Int) % 256) = (((UInt8.ofNat N).toNat : Nat) : Int) := by
        rw [u8_in (by omega) (by omega), UInt8.toNat_ofNat']; omega
      have hu1 : (strOf [UInt8.ofNat N]).size = 1 := by rw [strOf_size]; rfl
      generalize UInt8.ofNat N = b at *
      have hc := one_conv wr b
      have HS := hide hs
      have HE := hide he
      clear hs he
      generalize strOf (dig j n) = D at *
      generalize strOf [b] = B at *
      go_wp2
      go_roundw
      case rel =>
        refine ⟨j + 1, by omega, by go_num, ?_, ?_, ?_⟩
        · rw [HE.out]; norm_cast
        · rw [HS.out]
        · exact hb.alloc hb.size _
      case measure => simp [intOf]; omega
    · obtain rfl : j = k := by omega
      go_wp2
      go_ret
      exact ⟨rfl, hb⟩
set_option maxHeartbeats 1000000 in
set_option maxRecDepth 100000 in
/-- the document's sum -/
theorem sum_any (s : ByteArray) (a n : Nat) (h : a + n ≤ s.size) (hn : n ≤ 4) (hs : s.size ≤ 1099511627776000) (w : World) :
    Calls Try.prog 79 #[.string s, .int .i64 (a : Int), .int .i64 (n : Int)] w fun e w' => e = .returned (.int .i64 (val ((s.data.toList.drop a).take n) : Int)) ∧ w = w' := by
  go_enter Try.func79, Try.ntmps79
  go_wp2
  go_loopw [7, 8] (fun x i wr => ∃ j : Nat, j ≤ n ∧ i = .int .i64 (j : Int) ∧ x = .int .i64 (val ((s.data.toList.drop a).take j) : Int) ∧ w = wr)
    (fun _ i _ => n - (intOf i).toNat)
  case atStart => exact ⟨0, by omega, rfl, rfl, rfl⟩
  case round =>
    obtain ⟨j, hj, rfl, rfl, rfl⟩ := hrel
    by_cases hlt : j < n
    · have hk : a + j < s.size := by omega
      have hx : ∀ w', (Instr.index 9 (.string s) (.int .i64 ((a : Int) + (j : Int)))).run Try.prog w' = .ok (.int .u8 (s[a + j].toNat : Int)) w' := fun w' => by
        have := ix_str w' s (a + j) hk
        rwa [show ((a + j : Nat) : Int) = (a : Int) + (j : Int) by omega] at this
      have hX : s[a + j].toNat < 256 := s[a + j].toNat_lt
      have hv := val_take (s.data.toList.drop a) j (by rw [List.length_drop, size_data]; omega)
      rw [show (s.data.toList.drop a)[j]'(by rw [List.length_drop, size_data]; omega) = s[a + j] by rw [List.getElem_drop]; rfl] at hv
      have hN : val ((s.data.toList.drop a).take j) < 16777216 := by
        refine Nat.lt_of_lt_of_le (val_lt _) ?_
        exact Nat.pow_le_pow_right (show 256 > 0 by omega) (show ((s.data.toList.drop a).take j).length ≤ 3 by rw [List.length_take]; omega)
      generalize s[a + j].toNat = X at *
      generalize val ((s.data.toList.drop a).take j) = N at *
      have HV := hide hv
      clear hv
      go_wp2
      go_roundw
      case rel => exact ⟨j + 1, by omega, by go_num, by rw [HV.out]; norm_cast, trivial⟩
      case measure => simp [intOf]; omega
    · obtain rfl : j = n := by omega
      go_wp2
      go_ret
      exact ⟨rfl, rfl⟩
theorem num_any (d : Int) (w : World) :
    Calls Try.prog 11 #[.int .i64 d] w fun e w' => e = .returned (.int .i64 d) ∧ w = w' := by
  go_enter Try.func11, Try.ntmps11
  go_wp2
  go_ret
  exact ⟨rfl, rfl⟩
end Go.Proofs.Ythihmgdefbahpaa
