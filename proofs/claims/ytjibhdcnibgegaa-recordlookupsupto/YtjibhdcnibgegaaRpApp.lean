import Derived.Test.YtjibhdcnibgegaaRpCmp
import Derived.Lib.AppendStr
namespace Go.Proofs.Ytjibhdcnibgegaa
open Go.RowKit
theorem strCells_ub (s : ByteArray) : Lib.strCells s = s.data.toList.map ub := rfl
/-- append of a text to a row that is there: it lies where it lay, or anew -/
theorem run_appStr (w : World) (base g n cap : Nat) (xs : List Value) (ty : TypeId) (s : ByteArray) (hown : w.ownsRow base 5 1 (.slice (some ⟨g, 0, none⟩) n cap) n xs) (hbytes : n + s.size ≤ 140737488355328) (hbase : base ≤ w.heap.size) :
    ∃ v' w', (Builtin.append_ #[66, 9] ty #[.slice (some ⟨g, 0, none⟩) n cap, .string s]).run Try.prog w = .ok v' w' ∧ w'.ownsRow base 5 1 v' (n + s.size) (xs ++ s.data.toList.map ub) ∧ Grew w w' (.slice (some ⟨g, 0, none⟩) n cap) v' := by
  obtain ⟨i0, hi, hz0, hz1, hz2⟩ := info_parts info5
  obtain ⟨v', w', hr, ho, hg, hn⟩ := Lib.run_append_own_string (P := Try.prog) w base 66 9 ty 5 i0 Try.underlying66 Try.underlying9 hi hz0 hz1 hz2 _ n xs hown s (by unfold maxLen; omega) hbytes hbase
  refine ⟨v', w', hr, ho, hg, ?_⟩
  rcases hown.2 with ⟨h0, _⟩ | ⟨g', cap', cur, h0, hbg, hgg, hnc, hcm, hcs, htake⟩
  · cases h0
  · injection h0 with h1 h2 h3
    injection h1 with h1
    injection h1 with h1
    subst h1; subst h3
    by_cases hroom : n + s.size ≤ cap
    · have h2 := Lib.run_append_room_string (P := Try.prog) w 66 9 ty 5 i0 Try.underlying66 Try.underlying9 hi hz1 g n cap cur hgg s hroom (by omega)
      rw [hr] at h2
      injection h2 with h2 h3
      exact .inl (by rw [h2]; rfl)
    · have h2 := Lib.run_append_grow_string (P := Try.prog) w 66 9 ty 5 i0 (.int .u8 0) Try.underlying66 Try.underlying9 hi hz0 ⟨g, 0, none⟩ n cap xs (by rw [hz1]; exact hown.1) (hown.cells (g := g) rfl) s (by omega) (by omega) (by rw [hz2]; exact growslice_fits (by omega) (by omega))
      rw [hr] at h2
      injection h2 with h2 h3
      exact .inr ⟨w.heap.size, by rw [h2]; rfl, Nat.le_refl _⟩
theorem wpList_appStr {w : World} {ops : Array Oper} {rest : List Oper} {o : Oper} {a : Act} {Q : Exit → Act → World → Prop} (hgd : o.guard = none) (sl x : Operand)
    (ho : o.op = .call { callee := .builtin .append, args := #[sl, x], argTypes := #[66, 9] })
    (base g n cap : Nat) (xs : List Value) (s : ByteArray) (hs : a.eval sl = .slice (some ⟨g, 0, none⟩) n cap) (hx : a.eval x = .string s) (hown : w.ownsRow base 5 1 (.slice (some ⟨g, 0, none⟩) n cap) n xs) (hbytes : n + s.size ≤ 140737488355328) (hbase : base ≤ w.heap.size)
    (h : ∀ v' w', w'.ownsRow base 5 1 v' (n + s.size) (xs ++ s.data.toList.map ub) → Grew w w' (.slice (some ⟨g, 0, none⟩) n cap) v' → wpList Try.prog ops Q rest (a.put o.dst v') w') : wpList Try.prog ops Q (o :: rest) a w := by
  refine wpList_plain hgd fun K hK => ?_
  obtain ⟨v', w', hr, h2, h3⟩ := run_appStr w base g n cap xs o.type s hown hbytes hbase
  unfold Oper.wp execOp
  simp only [ho, resolve, invoke, builtin, Sem.run_bind, Sem.run_pure, Result.andThen_ok, List.map_toArray, List.map_cons, List.map_nil, hs, hx, hr]
  exact hK _ _ (h v' w' h2 h3)
set_option maxRecDepth 100000 in
theorem len64_16 (w : World) : Calls Try.prog 53 #[.int .u64 65535] w fun e w' => e = .returned (.int .i64 16) ∧ w = w' := by
  go_enter Try.func53, Try.ntmps53
  go_wp2
  go_ret
  exact ⟨by kernel_rfl, rfl⟩
set_option maxHeartbeats 1000000 in
set_option maxRecDepth 100000 in
/-- put of two bytes -/
theorem put16_any (n : Nat) (base : Nat) (v : Value) (m : Nat) (xs : List Value) (w : World) (hown0 : w.ownsRow base 5 1 v m xs) (hm : m ≤ 70368744177664) (hbase : base ≤ w.heap.size) :
    Calls Try.prog 57 #[v, .int .u16 (n : Int)] w fun e w' => ∃ v', e = .returned v' ∧ w'.ownsRow base 5 1 v' (m + 2) (xs ++ (dig 2 n).map ub) ∧ Grew w w' v v' := by
  obtain ⟨i0, hi, hz0, hz1, hz2⟩ := info_parts info5
  go_enter Try.func57, Try.ntmps57
  go_wp2_with (go_at_call 53; refine Calls.mono (len64_16 _) ?_; rintro e w' ⟨rfl, rfl⟩)
  go_loopw [0, 5] (fun v1 i wr => ∃ k : Nat, k ≤ 2 ∧ i = .int .i64 (8 - 8 * (k : Int)) ∧
      wr.ownsRow base 5 1 v1 (m + k) (xs ++ ((dig 2 n).take k).map ub) ∧ Grew w wr v v1)
    (fun _ i _ => (intOf i + 8).toNat)
  case atStart => exact ⟨0, by omega, rfl, by simpa using hown0, Grew.refl _ _⟩
  case round =>
    obtain ⟨k, hk, rfl, hown, hg⟩ := hrel
    have hsz := hg.size
    by_cases h4 : k = 2
    · subst h4
      go_wp2
      go_ret
      refine ⟨_, rfl, ?_, hg⟩
      rwa [List.take_of_length_le (by rw [dig_len]; omega)] at hown
    · obtain ⟨b, hb⟩ : ∃ b, b = UInt8.ofNat (n / 2 ^ (8 - 8 * k)) := ⟨_, rfl⟩
      have e1 : (dig 2 n).take (k + 1) = (dig 2 n).take k ++ [b] := by
        rw [dig_two, hb]
        have : k = 0 ∨ k = 1 := by omega
        rcases this with rfl | rfl <;> simp
      have hq : ((n : Int) / 2 ^ (8 - 8 * (k : Int)).toNat) = ((n / 2 ^ (8 - 8 * k) : Nat) : Int) := by
        rw [show (8 - 8 * (k : Int)).toNat = 8 - 8 * k by omega]; norm_cast
      have hk3 : (k : Int) ≤ 1 := by omega
      have hb8 := hb ▸ u8_nat (n / 2 ^ (8 - 8 * k))
      generalize n / 2 ^ (8 - 8 * k) = N at *
      have HB := hide hb
      clear hb
      have E1 := hide e1
      clear e1
      go_wp2_with (at_builtin; refine wpList_append_own_at _ rfl _ _ 66 rfl base 5 i0 (.int .u8 0) 1 1 Try.underlying66 hi hz0 hz1 hz2 rfl (by decide) _ _ _ rfl (hown.alloc _) ⟨wr.heap.size, 0, none⟩ 1 1 [ub b] rfl rfl (cell_one_new _ _ _) (one_of rfl) (by unfold maxLen; omega) (by omega) (by simp; omega) ?_; intro v1 w2 hown2 hgrow2 hnil2 hat2)
      go_roundw
      case rel =>
        refine ⟨k + 1, by omega, by go_num, ?_, ?_⟩
        · rw [E1.out, List.map_append, ← List.append_assoc]
          exact hown2
        · exact (hg.alloc _).app hgrow2 hat2
      case measure => simp [intOf]; omega
theorem bor16 (a b : Nat) (ha : a < 256) (hb : b < 256) : bits .or .u16 ((a : Int) * 256) (b : Int) = ((a * 256 + b : Nat) : Int) := by
  have hx : 2 ^ 8 * a + b = 2 ^ 8 * a ||| b := Nat.two_pow_add_eq_or_of_lt (by omega) a
  have o : ∀ c : Nat, c < 65536 → (BitVec.ofInt 16 (c : Int)).toNat = c := fun c hc => by
    rw [BitVec.ofInt_natCast, BitVec.toNat_ofNat]; exact Nat.mod_eq_of_lt (by omega)
  show IntKind.u16.wrap ((BitVec.ofInt 16 ((a : Int) * 256) ||| BitVec.ofInt 16 (b : Int)).toNat : Int) = _
  rw [show (a : Int) * 256 = ((256 * a : Nat) : Int) by omega, BitVec.toNat_or, o (256 * a) (by omega), o b (by omega)]
  rw [show 256 * a = 2 ^ 8 * a by omega, ← hx]
  simp [IntKind.wrap, IntKind.signed, IntKind.bits]; omega
set_option maxHeartbeats 1000000 in
set_option maxRecDepth 100000 in
/-- take of at most two bytes -/
theorem take16_any (s : ByteArray) (hs : s.size ≤ 2) (w : World) :
    Calls Try.prog 54 #[.string s] w fun e w' => e = .returned (.int .u16 (val s.data.toList : Int)) ∧ w = w' := by
  go_enter Try.func54, Try.ntmps54
  go_wp2
  go_loopw [3, 7] (fun n i wr => ∃ k : Nat, k ≤ s.size ∧ i = .int .i64 (k : Int) ∧ n = .int .u16 (val (s.data.toList.take k) : Int) ∧ w = wr)
    (fun _ i _ => s.size - (intOf i).toNat)
  case atStart => exact ⟨0, by omega, rfl, rfl, rfl⟩
  case round =>
    obtain ⟨k, hk, rfl, rfl, rfl⟩ := hrel
    by_cases hlt : k < s.size
    · have hx : ∀ w', (Instr.index 9 (.string s) (.int .i64 (k : Int))).run Try.prog w' = .ok (.int .u8 (s[k].toNat : Int)) w' := fun w' => ix_str w' s k hlt
      have hX : s[k].toNat < 256 := s[k].toNat_lt
      have hv := val_take s.data.toList k (by rw [size_data]; exact hlt)
      rw [show s.data.toList[k]'(by rw [size_data]; exact hlt) = s[k] from rfl] at hv
      have hN : val (s.data.toList.take k) < 256 := by
        refine Nat.lt_of_lt_of_le (val_lt _) ?_
        rw [List.length_take, size_data, Nat.min_eq_left hk]
        exact Nat.pow_le_pow_right (by omega) (show k ≤ 1 by omega)
      generalize s[k].toNat = X at *
      generalize val (s.data.toList.take k) = N at *
      have HV := hide hv
      clear hv
      have hor := bor16 N X hN hX
      go_wp2
      go_roundw
      case rel => exact ⟨k + 1, by omega, by go_num, by rw [HV.out]; norm_cast, trivial⟩
      case measure => simp [intOf]; omega
    · obtain rfl : k = s.size := by omega
      go_wp2
      go_ret
      rw [List.take_of_length_le (by simp)]
      exact ⟨rfl, rfl⟩
end Go.Proofs.Ytjibhdcnibgegaa
