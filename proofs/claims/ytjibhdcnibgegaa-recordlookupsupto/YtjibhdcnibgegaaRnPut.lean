import Derived.Test.YtjibhdcnibgegaaProg
import Derived.Test.YtjibhdcnibgegaaRnPlain
import Derived.Deep.RegionHeld3
import Derived.Deep.AppendLies
namespace Go.Proofs.Ytjibhdcnibgegaa
open Go.RowKit
theorem info5 : (Try.prog.info? 5).map (fun i => (i.zero, i.size, i.bytes)) = some (some (.int .u8 0), 1, 1) := by kernel_rfl
theorem ix_str (w : World) (s : ByteArray) (k : Nat) (hk : k < s.size) : (Instr.index 9 (.string s) (.int .i64 (k : Int))).run Try.prog w = .ok (.int .u8 (s[k].toNat : Int)) w := by
  rw [run_index_string w 9 s .i64 k Try.underlying9, dif_pos ⟨by omega, by omega⟩]
  simp
theorem one_of {x : Value} (hx : x.oneCell' = true) : ∀ u ∈ [x], u.oneCell' = true := by
  intro u hu; simp at hu; subst hu; exact hx
set_option maxRecDepth 100000 in
theorem len64_32 (w : World) : Calls Try.prog 53 #[.int .u64 4294967295] w fun e w' => e = .returned (.int .i64 32) ∧ w = w' := by
  go_enter Try.func53, Try.ntmps53
  go_wp2
  go_ret
  exact ⟨by kernel_rfl, rfl⟩
theorem u8_nat (n : Nat) : IntKind.u8.wrap (n : Int) = (((UInt8.ofNat n).toNat : Nat) : Int) := by
  rw [UInt8.toNat_ofNat']
  simp [IntKind.wrap, IntKind.signed, IntKind.bits]
set_option maxHeartbeats 1000000 in
set_option maxRecDepth 100000 in
/-- put of four bytes -/
theorem put32_any (n : Nat) (base : Nat) (v : Value) (m : Nat) (xs : List Value) (w : World) (hown0 : w.ownsRow base 5 1 v m xs) (hm : m ≤ 70368744177664) (hbase : base ≤ w.heap.size) :
    Calls Try.prog 30 #[v, .int .u32 (n : Int)] w fun e w' => ∃ v', e = .returned v' ∧ w'.ownsRow base 5 1 v' (m + 4) (xs ++ (dig 4 n).map ub) ∧ Grew w w' v v' := by
  obtain ⟨i0, hi, hz0, hz1, hz2⟩ := info_parts info5
  go_enter Try.func30, Try.ntmps30
  go_wp2_with (go_at_call 53; refine Calls.mono (len64_32 _) ?_; rintro e w' ⟨rfl, rfl⟩)
  go_loopw [0, 5] (fun v1 i wr => ∃ k : Nat, k ≤ 4 ∧ i = .int .i64 (24 - 8 * (k : Int)) ∧
      wr.ownsRow base 5 1 v1 (m + k) (xs ++ ((dig 4 n).take k).map ub) ∧ Grew w wr v v1)
    (fun _ i _ => (intOf i + 8).toNat)
  case atStart => exact ⟨0, by omega, rfl, by simpa using hown0, Grew.refl _ _⟩
  case round =>
    obtain ⟨k, hk, rfl, hown, hg⟩ := hrel
    have hsz := hg.size
    by_cases h4 : k = 4
    · subst h4
      go_wp2
      go_ret
      refine ⟨_, rfl, ?_, hg⟩
      rwa [List.take_of_length_le (by rw [dig_len]; omega)] at hown
    · obtain ⟨b, hb⟩ : ∃ b, b = UInt8.ofNat (n / 2 ^ (24 - 8 * k)) := ⟨_, rfl⟩
      have e1 : (dig 4 n).take (k + 1) = (dig 4 n).take k ++ [b] := by
        rw [dig_four, hb]
        have : k = 0 ∨ k = 1 ∨ k = 2 ∨ k = 3 := by omega
        rcases this with rfl | rfl | rfl | rfl <;> simp
      have hq : ((n : Int) / 2 ^ (24 - 8 * (k : Int)).toNat) = ((n / 2 ^ (24 - 8 * k) : Nat) : Int) := by
        rw [show (24 - 8 * (k : Int)).toNat = 24 - 8 * k by omega]; norm_cast
      have hk3 : (k : Int) ≤ 3 := by omega
      have hb8 := hb ▸ u8_nat (n / 2 ^ (24 - 8 * k))
      generalize n / 2 ^ (24 - 8 * k) = N at *
      have HB := hide hb
      clear hb
      have E1 := hide e1
      clear e1
      go_wp2_with (at_builtin; refine wpList_append_own_at _ rfl _ _ 66 rfl base 5 i0 (.int .u8 0) 1 1 Try.underlying66 hi hz0 hz1 hz2 rfl (by decide) _ _ _ rfl (hown.alloc _) ⟨wr.heap.size, 0, none⟩ 1 1 [ub b] rfl rfl (cell_one_new _ _ _) (one_of rfl) (by unfold maxLen; omega) (by omega) (by simp; omega) ?_; intro v1 w2 hown2 hgrow2 hnil2 hat2)
      go_roundw
      case rel =>
        refine ⟨k + 1, by omega, by go_num, ?_, ?_⟩
        · rw [E1.out, List.map_append, ← List.append_assoc]
          exact hown2
        · exact (hg.alloc _).app hgrow2 hat2
      case measure => simp [intOf]; omega
end Go.Proofs.Ytjibhdcnibgegaa
