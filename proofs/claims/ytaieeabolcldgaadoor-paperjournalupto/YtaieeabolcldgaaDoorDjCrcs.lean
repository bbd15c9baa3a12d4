import Derived.Test.YtaieeabolcldgaaDoorPart13
namespace Go.Proofs.YtaieeabolcldgaaDoor
open Go.RowKit
theorem info9 : (Tryd.prog.info? 9).map (fun i => (i.zero, i.size, i.bytes)) = some (some (.string ByteArray.empty), 1, 16) := by kernel_rfl
theorem bxor64 (a b : Nat) (ha : a < 4294967296) (hb : b < 4294967296) : bits .xor .i64 (a : Int) (b : Int) = ((a ^^^ b : Nat) : Int) := by
  have hx : a ^^^ b < 2 ^ 32 := Nat.xor_lt_two_pow (by omega) (by omega)
  have o : ∀ c : Nat, c < 4294967296 → (BitVec.ofInt 64 (c : Int)).toNat = c := fun c hc => by
    rw [BitVec.ofInt_natCast, BitVec.toNat_ofNat]; exact Nat.mod_eq_of_lt (by omega)
  show IntKind.i64.wrap ((BitVec.ofInt 64 (a : Int) ^^^ BitVec.ofInt 64 (b : Int)).toNat : Int) = _
  rw [BitVec.toNat_xor, o a ha, o b hb]
  generalize a ^^^ b = c at *
  simp [IntKind.wrap, IntKind.signed, IntKind.bits]
  omega
set_option maxRecDepth 100000 in
/-- the document's step -/
theorem rstep_any (n : Nat) (hn : n < 4294967296) (w : World) :
    Calls Tryd.prog 53 #[.int .i64 (n : Int)] w fun e w' => e = .returned (.int .i64 (stp n : Int)) ∧ w = w' := by
  by_cases h2 : n % 2 = 0
  · have hq : ((n : Int) % 2 == 0) = true := by rw [show (n : Int) % 2 = 0 by omega]; rfl
    have hr : Hid ((n : Int) / 2 = (stp n : Int)) := by show _ = _; unfold stp; rw [if_pos h2]; omega
    go_enter Tryd.func53, Tryd.ntmps53
    go_wp2
    go_ret
    exact ⟨by rw [← hr.out]; rfl, rfl⟩
  · have hq : ((n : Int) % 2 == 0) = false := by rw [show (n : Int) % 2 = 1 by omega]; rfl
    have hx : bits .xor .i64 ((n : Int) / 2) 3988292384 = (stp n : Int) := by
      have := bxor64 (n / 2) 3988292384 (by omega) (by omega)
      rw [show ((n / 2 : Nat) : Int) = (n : Int) / 2 by omega] at this
      unfold stp
      rw [if_neg h2]
      exact this
    go_enter Tryd.func53, Tryd.ntmps53
    go_wp2
    go_ret
    exact ⟨rfl, rfl⟩
theorem stps_succ (k w : Nat) : stps (k + 1) w = stp (stps k w) := by rw [stps_add]; rfl
set_option maxHeartbeats 1000000 in
set_option maxRecDepth 100000 in
/-- the document's CRC -/
theorem rcrc_any (s : ByteArray) (w : World) (hs : s.size ≤ 9223372036854775807) :
    Calls Tryd.prog 25 #[.string s] w fun e w' => e = .returned (.int .i64 (crcN 0 s.data.toList : Int)) ∧ w = w' := by
  go_enter Tryd.func25, Tryd.ntmps25
  go_wp2
  go_loop [3, 4] (fun v i => ∃ k : Nat, k ≤ s.size ∧ i = .int .i64 k ∧ v = .int .i64 (crcW 4294967295 (s.data.toList.take k) : Int)) (fun _ i => s.size - (intOf i).toNat)
  case atStart => exact ⟨0, Nat.zero_le _, rfl, rfl⟩
  case round =>
    obtain ⟨k, hk, rfl, rfl⟩ := hrel
    have hW4 : crcW 4294967295 (s.data.toList.take k) < 4294967296 := crcW_lt _ (by omega)
    by_cases hlt : k < s.size
    · have hS := crcW_snoc 4294967295 s.data.toList k (by rw [size_data]; exact hlt)
      have hxs := fun w' => ix_str w' s k hlt
      rw [show s.data.toList[k]'(by rw [size_data]; exact hlt) = s[k] from rfl, crcB_eq] at hS
      have hX0 : s[k].toNat < 256 := s[k].toNat_lt
      generalize s[k].toNat = X at *
      have HS := hide hS
      clear hS
      generalize crcW 4294967295 (s.data.toList.take k) = W at *
      have h1 := bxor64 W X hW4 (by omega)
      have h1l : W ^^^ X < 4294967296 := xor32_lt hW4 (by omega)
      generalize W ^^^ X = Y at *
      go_wp2_with fail
      go_loop [3, 5] (fun v j => ∃ r : Nat, r ≤ 8 ∧ j = .int .i64 r ∧ v = .int .i64 (stps r Y : Int)) (fun _ j => 8 - (intOf j).toNat)
      case atStart => exact ⟨0, by omega, rfl, rfl⟩
      case round =>
        obtain ⟨r, hr, rfl, rfl⟩ := hrel
        have hYl := stps_lt r h1l
        have hY1 := stps_succ r Y
        have HY := hide hY1
        clear hY1
        by_cases hr8 : r < 8
        · generalize stps r Y = Z at *
          go_wp2_with (go_at_call 53; refine Calls.mono (rstep_any _ hYl _) ?_; rintro e wx ⟨rfl, rfl⟩)
          go_round
          case rel => exact ⟨r + 1, by omega, by go_num, by rw [HY.out]⟩
          case measure => simp [intOf]; omega
        · obtain rfl : r = 8 := by omega
          go_wp2_with fail
          go_round
          case rel => exact ⟨k + 1, by omega, by go_num, by rw [HS.out]⟩
          case measure => simp [intOf]; omega
    · obtain rfl : k = s.size := by omega
      rw [List.take_of_length_le (by simp)] at hW4 ⊢
      have hx : bits .xor .i64 (crcW 4294967295 s.data.toList : Int) 4294967295 = ((crcW 4294967295 s.data.toList ^^^ 4294967295 : Nat) : Int) := bxor64 _ 4294967295 hW4 (by omega)
      have HF : Hid (crcN 0 s.data.toList = crcW 4294967295 s.data.toList ^^^ 4294967295) := by show _ = _; unfold crcN; rw [Nat.xor_zero, Nat.xor_comm]
      generalize crcW 4294967295 s.data.toList ^^^ 4294967295 = Z at *
      go_wp2
      go_ret
      exact ⟨by rw [HF.out]; rfl, rfl⟩
/-- a list of the call's own -/
def OL (lo : Nat) (w : World) (v : Value) (xs : List ByteArray) : Prop :=
  (xs = [] ∧ v = .slice none 0 0) ∨ ∃ g c, lo ≤ g ∧ 0 < xs.length ∧ v = .slice (some ⟨g, 0, none⟩) xs.length c ∧ g < w.heap.size ∧ w.ownsRow lo 9 1 v xs.length (xs.map Value.string)
theorem OL_of {wr : World} {base : Nat} {ys : List ByteArray} {v : Value} (h : wr.ownsRow base 9 1 v ys.length (ys.map Value.string)) (hnil : ys = [] → v = .slice none 0 0) : OL base wr v ys := by
  by_cases h0 : ys = []
  · exact Or.inl ⟨h0, hnil h0⟩
  · have hpos : 0 < ys.length := List.length_pos_iff.2 h0
    rcases h.2 with ⟨_, hz⟩ | ⟨g, cap, cur, hv, hg, hblk, hn, hc, hcs, htake⟩
    · omega
    · refine Or.inr ⟨g, cap, hg, hpos, hv, ?_, h⟩
      rcases Nat.lt_or_ge g wr.heap.size with h' | h'
      · exact h'
      · rw [Array.getElem?_eq_none h'] at hblk; simp at hblk
theorem own_lies {w : World} {base g c : Nat} {xs : List ByteArray} (h : w.ownsRow base 9 1 (.slice (some ⟨g, 0, none⟩) xs.length c) xs.length (xs.map Value.string)) : Lies g 0 w xs := by
  intro j x hx
  have hj := (List.getElem?_eq_some_iff.1 hx).1
  rw [Nat.zero_add, h.cellAt j (by omega)]
  simp [hx]
theorem turnB_size (x : ByteArray) : (turnB x).size ≤ x.size + 1 := by
  unfold turnB
  split
  · show 1 ≤ _; omega
  · rw [strOf_size, List.length_cons, List.length_drop, size_data]; omega
theorem cat_turn (xs : List ByteArray) : (cat (xs.map turnB)).length ≤ (cat xs).length + xs.length := by
  induction xs with
  | nil => simp [cat]
  | cons a t ih =>
    have e1 : cat ((a :: t).map turnB) = (turnB a).data.toList ++ cat (t.map turnB) := by simp [cat]
    have e2 : cat (a :: t) = a.data.toList ++ cat t := by simp [cat]
    have := turnB_size a
    rw [e1, e2, List.length_append, List.length_append, size_data, size_data, List.length_cons]
    omega
theorem mem_catj {xs : List ByteArray} {x : ByteArray} (h : x ∈ xs) : x.size ≤ (cat xs).length := by
  obtain ⟨k, hk, rfl⟩ := List.getElem_of_mem h
  have h1 := cat_take_len xs (k + 1)
  rw [cat_snoc xs k hk, List.length_append, size_data] at h1
  omega
end Go.Proofs.YtaieeabolcldgaaDoor
