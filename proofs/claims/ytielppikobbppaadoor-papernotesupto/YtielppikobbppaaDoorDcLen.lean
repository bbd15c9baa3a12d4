import Derived.Test.YtielppikobbppaaDoorProg
import Derived.Test.YtielppikobbppaaDoorDcPlain
namespace Go.Proofs.YtielppikobbppaaDoor
open Go.RowKit
theorem ix_str (w : World) (s : ByteArray) (k : Nat) (hk : k < s.size) : (Instr.index 9 (.string s) (.int .i64 (k : Int))).run Tryd.prog w = .ok (.int .u8 (s[k].toNat : Int)) w := by
  rw [run_index_string w 9 s .i64 k Tryd.underlying9, dif_pos ⟨by omega, by omega⟩]
  simp
theorem crcW_snoc (w : Nat) (l : List UInt8) (k : Nat) (h : k < l.length) : crcW w (l.take (k + 1)) = crcB (crcW w (l.take k)) l[k].toNat := by
  rw [List.take_succ_eq_append_getElem h, crcW_append]
  rfl
theorem bnib (Y : Nat) (h : Y < 4294967296) : bits .xor .u32 ((Y : Int) / 16) (t4 (Y % 16) : Int) = (nib Y : Int) := by
  have := bxor32 (Y / 16) (t4 (Y % 16)) (by omega) (t4_lt _ (by omega))
  rwa [show ((Y / 16 : Nat) : Int) = (Y : Int) / 16 by omega] at this
set_option maxHeartbeats 1000000 in
set_option maxRecDepth 100000 in
/-- lengthen -/
theorem lengthen_any (a : Nat) (s : ByteArray) (hn : a < 4294967296) (hs : s.size ≤ 9223372036854775807) (w : World) (hT : Tab4 0 w) :
    Calls Tryd.prog 72 #[.int .u32 (a : Int), .string s] w fun e w' => e = .returned (.int .u32 (crcN a s.data.toList : Int)) ∧ w = w' := by
  have hnot := bnot32 a hn
  have HT := hide hT
  clear hT
  generalize hA : 4294967295 ^^^ a = A at hnot
  have hA4 : A < 4294967296 := by rw [← hA]; exact xor32_lt (by omega) hn
  have HF : Hid (crcN a s.data.toList = 4294967295 ^^^ crcW A s.data.toList) := by show crcN a s.data.toList = 4294967295 ^^^ crcW A s.data.toList; rw [← hA]; rfl
  clear hA
  go_enter Tryd.func72, Tryd.ntmps72
  go_wp2
  go_loop [5, 11] (fun v i => ∃ k : Nat, k ≤ s.size ∧ i = .int .i64 k ∧ v = .int .u32 (crcW A (s.data.toList.take k) : Int)) (fun _ i => s.size - (intOf i).toNat)
  case atStart => exact ⟨0, Nat.zero_le _, rfl, rfl⟩
  case round =>
    obtain ⟨k, hk, rfl, rfl⟩ := hrel
    have hW4 : crcW A (s.data.toList.take k) < 4294967296 := crcW_lt _ hA4
    by_cases hlt : k < s.size
    · have hS := crcW_snoc A s.data.toList k (by rw [size_data]; exact hlt)
      have hxs := fun w' => ix_str w' s k hlt
      rw [show s.data.toList[k]'(by rw [size_data]; exact hlt) = s[k] from rfl] at hS
      have hX0 : s[k].toNat < 256 := s[k].toNat_lt
      generalize s[k].toNat = X at *
      generalize hW : crcW A (s.data.toList.take k) = W at *
      have HW := hide hW
      have HS := hide hS
      clear hW hS
      have h1 := bxor32 W X hW4 (by omega)
      have h1l : W ^^^ X < 4294967296 := xor32_lt hW4 (by omega)
      have HB : Hid (crcB W X = nib (nib (W ^^^ X))) := rfl
      generalize W ^^^ X = Y at *
      have h2 := bnib Y h1l
      have h2c := HT.out (Y % 16) (by omega)
      have h2l : nib Y < 4294967296 := nib_lt h1l
      generalize nib Y = Z at *
      have h3 := bnib Z h2l
      have h3c := HT.out (Z % 16) (by omega)
      generalize nib Z = V at *
      go_wp2
      go_round
      case rel => exact ⟨k + 1, by omega, by go_num, by rw [HS.out, HB.out]⟩
      case measure => simp [intOf]; omega
    · obtain rfl : k = s.size := by omega
      have hfin : s.data.toList.take s.size = s.data.toList := List.take_of_length_le (by simp)
      rw [hfin] at hW4 ⊢
      have h9 := bnot32 (crcW A s.data.toList) hW4
      rw [← HF.out] at h9
      clear hfin
      go_wp2
      go_ret
      exact ⟨rfl, rfl⟩
end Go.Proofs.YtielppikobbppaaDoor
