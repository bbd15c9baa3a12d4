import Derived.Test.YtfpalfpfijcpbaaGreatDoorGPaWrit
import Derived.Laws.OwnMore
import Derived.Lib.Split
import Derived.Deep.QuietTactic
import Derived.BigQuiet
import Derived.Deep.RegionHeld3
import Derived.Test.YtfpalfpfijcpbaaGreatDoorGDaAlg
import Derived.Test.YtfpalfpfijcpbaaGreatDoorGPaPtr
import Derived.Test.YtfpalfpfijcpbaaGreatDoorGPmParse
namespace Go.Proofs.YtfpalfpfijcpbaaGreatDoor
open Go.RowKit
theorem info5j : (Tryz.prog.info? 5).map (fun i => (i.zero, i.size, i.bytes)) = some (some (.int .u8 0), 1, 1) := by kernel_rfl
theorem cat_take_len (xs : List ByteArray) (k : Nat) : (cat (xs.take k)).length ≤ (cat xs).length := by
  have : cat xs = cat (xs.take k) ++ cat (xs.drop k) := by
    unfold cat
    rw [← List.flatten_append, ← List.map_append, List.take_append_drop]
  rw [this, List.length_append]
  omega
theorem one_cell' {x : Value} (hx : x.oneCell' = true) : ∀ u ∈ [x], u.oneCell' = true := by
  intro u hu; simp at hu; subst hu; exact hx
/-- a text written over -/
def turnB (x : ByteArray) : ByteArray := if x.size = 0 then ⟨#[120]⟩ else strOf (UInt8.ofNat ((x.data.toList.getD 0 0).toNat ^^^ 1) :: x.data.toList.drop 1)
theorem bxor8 (a b : Nat) (ha : a < 256) (hb : b < 256) : bits .xor .u8 (a : Int) (b : Int) = ((a ^^^ b : Nat) : Int) := by
  have hx : a ^^^ b < 2 ^ 8 := Nat.xor_lt_two_pow (by omega) (by omega)
  have o : ∀ c : Nat, c < 256 → (BitVec.ofInt 8 (c : Int)).toNat = c := fun c hc => by
    rw [BitVec.ofInt_natCast, BitVec.toNat_ofNat]; exact Nat.mod_eq_of_lt (by omega)
  show IntKind.u8.wrap ((BitVec.ofInt 8 (a : Int) ^^^ BitVec.ofInt 8 (b : Int)).toNat : Int) = _
  rw [BitVec.toNat_xor, o a ha, o b hb]
  exact u8_in (by omega) (by omega)
/-- the list, its first k texts written over -/
def ovK (xs : List ByteArray) (k : Nat) : List ByteArray := (xs.take k).map turnB ++ xs.drop k
theorem ovK_len (xs : List ByteArray) (k : Nat) : (ovK xs k).length = xs.length := by simp [ovK]; omega
theorem ovK_get (xs : List ByteArray) (k : Nat) (h : k < xs.length) : (ovK xs k)[k]? = some xs[k] := by
  unfold ovK
  rw [List.getElem?_append_right (by simp; omega)]
  simp only [List.length_map, List.length_take, List.getElem?_drop]
  rw [show min k xs.length = k by omega, Nat.sub_self, Nat.add_zero, List.getElem?_eq_getElem h]
theorem ovK_set (xs : List ByteArray) (k : Nat) (h : k < xs.length) : (ovK xs k).set k (turnB xs[k]) = ovK xs (k + 1) := by
  unfold ovK
  have hl : ((xs.take k).map turnB).length = k := by simp; omega
  rw [List.set_append_right _ _ (by omega), hl, Nat.sub_self, List.drop_eq_getElem_cons h, List.set_cons_zero, List.take_succ_eq_append_getElem h, List.map_append, List.append_assoc]
  rfl
theorem byte_string (w : World) (V : Nat) (hV : V < 256) : (convert 101 9 (.slice (some ⟨w.heap.size, 0, none⟩) 1 1)).run Tryz.prog (w.alloc (.cells #[.int .u8 (V : Int)] 5)).drew = .ok (.string (strOf [UInt8.ofNat V])) (w.alloc (.cells #[.int .u8 (V : Int)] 5)).drew := by
  have := run_convert_bytes_back (P := Tryz.prog) (w.alloc (.cells #[.int .u8 (V : Int)] 5)).drew 101 9 5 ⟨w.heap.size, 0, none⟩ 1 [UInt8.ofNat V] Tryz.underlying101 Tryz.underlying5 Tryz.underlying9 (fun j hj => by
    obtain rfl : j = 0 := by simpa using hj
    have e : (UInt8.ofNat V).toNat = V := by rw [UInt8.toNat_ofNat']; omega
    simp [Addr.add, e])
  exact this
end Go.Proofs.YtfpalfpfijcpbaaGreatDoor
namespace Go.Proofs.YtfpalfpfijcpbaaGreatDoor
open Go.RowKit
theorem info9 : (Tryz.prog.info? 9).map (fun i => (i.zero, i.size, i.bytes)) = some (some (.string ByteArray.empty), 1, 16) := by kernel_rfl
set_option maxRecDepth 100000 in
/-- the document's step -/
theorem rstep_any (n : Nat) (hn : n < 4294967296) (w : World) :
    Calls Tryz.prog 153 #[.int .i64 (n : Int)] w fun e w' => e = .returned (.int .i64 (stp n : Int)) ∧ w = w' := by
  by_cases h2 : n % 2 = 0
  · have hq : ((n : Int) % 2 == 0) = true := by rw [show (n : Int) % 2 = 0 by omega]; rfl
    have hr : Hid ((n : Int) / 2 = (stp n : Int)) := by show _ = _; unfold stp; rw [if_pos h2]; omega
    go_enter Tryz.func153, Tryz.ntmps153
    go_wp2
    go_ret
    exact ⟨by rw [← hr.out]; rfl, rfl⟩
  · have hq : ((n : Int) % 2 == 0) = false := by rw [show (n : Int) % 2 = 1 by omega]; rfl
    have hx : bits .xor .i64 ((n : Int) / 2) 3988292384 = (stp n : Int) := by
      have := bxor64 (n / 2) 3988292384 (by omega) (by omega)
      rw [show ((n / 2 : Nat) : Int) = (n : Int) / 2 by omega] at this
      unfold stp
      rw [if_neg h2]
      exact this
    go_enter Tryz.func153, Tryz.ntmps153
    go_wp2
    go_ret
    exact ⟨rfl, rfl⟩
theorem stps_succ (k w : Nat) : stps (k + 1) w = stp (stps k w) := by rw [stps_add]; rfl
set_option maxHeartbeats 1000000 in
set_option maxRecDepth 100000 in
/-- the document's CRC -/
theorem rcrc_any (s : ByteArray) (w : World) (hs : s.size ≤ 9223372036854775807) :
    Calls Tryz.prog 105 #[.string s] w fun e w' => e = .returned (.int .i64 (crcN 0 s.data.toList : Int)) ∧ w = w' := by
  go_enter Tryz.func105, Tryz.ntmps105
  go_wp2
  go_loop [3, 4] (fun v i => ∃ k : Nat, k ≤ s.size ∧ i = .int .i64 k ∧ v = .int .i64 (crcW 4294967295 (s.data.toList.take k) : Int)) (fun _ i => s.size - (intOf i).toNat)
  case atStart => exact ⟨0, Nat.zero_le _, rfl, rfl⟩
  case round =>
    obtain ⟨k, hk, rfl, rfl⟩ := hrel
    have hW4 : crcW 4294967295 (s.data.toList.take k) < 4294967296 := crcW_lt _ (by omega)
    by_cases hlt : k < s.size
    · have hS := crcW_snoc 4294967295 s.data.toList k (by rw [size_data]; exact hlt)
      have hxs := fun w' => ix_str w' s k hlt
      rw [show s.data.toList[k]'(by rw [size_data]; exact hlt) = s[k] from rfl, crcB_eq] at hS
      have hX0 : s[k].toNat < 256 := s[k].toNat_lt
      generalize s[k].toNat = X at *
      have HS := hide hS
      clear hS
      generalize crcW 4294967295 (s.data.toList.take k) = W at *
      have h1 := bxor64 W X hW4 (by omega)
      have h1l : W ^^^ X < 4294967296 := xor32_lt hW4 (by omega)
      generalize W ^^^ X = Y at *
      go_wp2_with fail
      go_loop [3, 5] (fun v j => ∃ r : Nat, r ≤ 8 ∧ j = .int .i64 r ∧ v = .int .i64 (stps r Y : Int)) (fun _ j => 8 - (intOf j).toNat)
      case atStart => exact ⟨0, by omega, rfl, rfl⟩
      case round =>
        obtain ⟨r, hr, rfl, rfl⟩ := hrel
        have hYl := stps_lt r h1l
        have hY1 := stps_succ r Y
        have HY := hide hY1
        clear hY1
        by_cases hr8 : r < 8
        · generalize stps r Y = Z at *
          go_wp2_with (go_at_call 153; refine Calls.mono (rstep_any _ hYl _) ?_; rintro e wx ⟨rfl, rfl⟩)
          go_round
          case rel => exact ⟨r + 1, by omega, by go_num, by rw [HY.out]⟩
          case measure => simp [intOf]; omega
        · obtain rfl : r = 8 := by omega
          go_wp2_with fail
          go_round
          case rel => exact ⟨k + 1, by omega, by go_num, by rw [HS.out]⟩
          case measure => simp [intOf]; omega
    · obtain rfl : k = s.size := by omega
      rw [List.take_of_length_le (by simp)] at hW4 ⊢
      have hx : bits .xor .i64 (crcW 4294967295 s.data.toList : Int) 4294967295 = ((crcW 4294967295 s.data.toList ^^^ 4294967295 : Nat) : Int) := bxor64 _ 4294967295 hW4 (by omega)
      have HF : Hid (crcN 0 s.data.toList = crcW 4294967295 s.data.toList ^^^ 4294967295) := by show _ = _; unfold crcN; rw [Nat.xor_zero, Nat.xor_comm]
      generalize crcW 4294967295 s.data.toList ^^^ 4294967295 = Z at *
      go_wp2
      go_ret
      exact ⟨by rw [HF.out]; rfl, rfl⟩
/-- a list of the call's own -/
def OL (lo : Nat) (w : World) (v : Value) (xs : List ByteArray) : Prop :=
  (xs = [] ∧ v = .slice none 0 0) ∨ ∃ g c, lo ≤ g ∧ 0 < xs.length ∧ v = .slice (some ⟨g, 0, none⟩) xs.length c ∧ g < w.heap.size ∧ w.ownsRow lo 9 1 v xs.length (xs.map Value.string)
theorem OL_of {wr : World} {base : Nat} {ys : List ByteArray} {v : Value} (h : wr.ownsRow base 9 1 v ys.length (ys.map Value.string)) (hnil : ys = [] → v = .slice none 0 0) : OL base wr v ys := by
  by_cases h0 : ys = []
  · exact Or.inl ⟨h0, hnil h0⟩
  · have hpos : 0 < ys.length := List.length_pos_iff.2 h0
    rcases h.2 with ⟨_, hz⟩ | ⟨g, cap, cur, hv, hg, hblk, hn, hc, hcs, htake⟩
    · omega
    · refine Or.inr ⟨g, cap, hg, hpos, hv, ?_, h⟩
      rcases Nat.lt_or_ge g wr.heap.size with h' | h'
      · exact h'
      · rw [Array.getElem?_eq_none h'] at hblk; simp at hblk
theorem own_lies {w : World} {base g c : Nat} {xs : List ByteArray} (h : w.ownsRow base 9 1 (.slice (some ⟨g, 0, none⟩) xs.length c) xs.length (xs.map Value.string)) : Lies g 0 w xs := by
  intro j x hx
  have hj := (List.getElem?_eq_some_iff.1 hx).1
  rw [Nat.zero_add, h.cellAt j (by omega)]
  simp [hx]
theorem turnB_size (x : ByteArray) : (turnB x).size ≤ x.size + 1 := by
  unfold turnB
  split
  · show 1 ≤ _; omega
  · rw [strOf_size, List.length_cons, List.length_drop, size_data]; omega
theorem cat_turn (xs : List ByteArray) : (cat (xs.map turnB)).length ≤ (cat xs).length + xs.length := by
  induction xs with
  | nil => simp [cat]
  | cons a t ih =>
    have e1 : cat ((a :: t).map turnB) = (turnB a).data.toList ++ cat (t.map turnB) := by simp [cat]
    have e2 : cat (a :: t) = a.data.toList ++ cat t := by simp [cat]
    have := turnB_size a
    rw [e1, e2, List.length_append, List.length_append, size_data, size_data, List.length_cons]
    omega
theorem mem_catj {xs : List ByteArray} {x : ByteArray} (h : x ∈ xs) : x.size ≤ (cat xs).length := by
  obtain ⟨k, hk, rfl⟩ := List.getElem_of_mem h
  have h1 := cat_take_len xs (k + 1)
  rw [cat_snoc xs k hk, List.length_append, size_data] at h1
  omega
end Go.Proofs.YtfpalfpfijcpbaaGreatDoor
namespace Go.Proofs.YtfpalfpfijcpbaaGreatDoor
open Go.RowKit Go.Shelf
set_option maxHeartbeats 1000000 in
set_option maxRecDepth 100000 in
theorem rin_any (n lo hi : Int) (w : World) :
    Calls Tryz.prog 103 #[.int .i64 n, .int .i64 lo, .int .i64 hi] w fun e w' => e = .returned (.bool (inR n lo hi)) ∧ w = w' := by
  obtain ⟨B, hB⟩ : ∃ B, B = inR n lo hi := ⟨_, rfl⟩
  rw [← hB]
  unfold inR at hB
  have HB := hide hB
  clear hB
  by_cases h : lo ≤ n
  · go_enter Tryz.func103, Tryz.ntmps103
    go_wp2
    go_ret
    refine ⟨ret_bool ?_, rfl⟩
    rw [HB.out, decide_eq_true h]; rfl
  · go_enter Tryz.func103, Tryz.ntmps103
    go_wp2
    go_ret
    refine ⟨ret_bool ?_, rfl⟩
    rw [HB.out, decide_eq_false (by omega)]; rfl
theorem ret_i {a b : Int} (h : a = b) : Ending.returned (.int .i64 a) = .returned (.int .i64 b) := by rw [h]
theorem wrap64_in {x : Int} (h0 : 0 ≤ x) (h1 : x < 9223372036854775808) : wrap64 x = x := by
  unfold wrap64
  omega
theorem one_of {x : Value} (hx : x.oneCell' = true) : ∀ u ∈ [x], u.oneCell' = true := by
  intro u hu; simp at hu; subst hu; exact hx
/-- the first j of the eight digits -/
def eightL (n j : Nat) : List UInt8 := (List.range j).map fun t => hd (n / 16 ^ (7 - t) % 16)
theorem eightL_succ (n j : Nat) : eightL n (j + 1) = eightL n j ++ [hd (n / 16 ^ (7 - j) % 16)] := by
  unfold eightL; rw [List.range_succ, List.map_append]; rfl
theorem eightL_len (n j : Nat) : (eightL n j).length = j := by simp [eightL]
theorem eightL_all (n : Nat) (h : n < 4294967296) : eightL n 8 = hexL (be4 n) := by
  have e : ∀ m : Nat, (UInt8.ofNat m).toNat = m % 256 := fun m => by simp
  simp only [eightL, List.range, List.range.loop, List.map_cons, List.map_nil, be4, hexL, e]
  simp only [show (7 - 0 : Nat) = 7 from rfl, show (7 - 1 : Nat) = 6 from rfl, show (7 - 2 : Nat) = 5 from rfl, show (7 - 3 : Nat) = 4 from rfl, show (7 - 4 : Nat) = 3 from rfl, show (7 - 5 : Nat) = 2 from rfl, show (7 - 6 : Nat) = 1 from rfl, show (7 - 7 : Nat) = 0 from rfl, Nat.reducePow]
  congr 1
  · congr 1; omega
  · congr 1
    · congr 1; omega
    · congr 1
      · congr 1; omega
      · congr 1
        · congr 1; omega
        · congr 1
          · congr 1; omega
          · congr 1
            · congr 1; omega
            · congr 1
              · congr 1; omega
              · congr 1; congr 1; omega
set_option maxHeartbeats 4000000 in
set_option maxRecDepth 100000 in
theorem eight_any (n : Nat) (hn : n < 4294967296) (w : World) :
    Calls Tryz.prog 60 #[.int .i64 (n : Int)] w fun e w' => e = .returned (.string (strOf (hexL (be4 n)))) ∧ Below w.heap.size w w' := by
  obtain ⟨i0, hi, hz0, hz1, hz2⟩ := info_parts info5
  rw [← eightL_all n hn]
  go_enter Tryz.func60, Tryz.ntmps60
  go_wp2_with fail
  go_loopw [3, 4, 5, 6] (fun v i _ _ wr => ∃ j : Nat, j ≤ 8 ∧ i = .int .i64 (7 - (j : Int)) ∧ Hid (wr.ownsRow w.heap.size 5 1 v j ((eightL n j).map ub) ∧ Below w.heap.size w wr)) (fun _ i _ _ _ => (intOf i + 1).toNat)
  case atStart => exact ⟨0, by omega, rfl, World.ownsRow_nil _ _ _ _, Below.refl _ _⟩
  case round =>
    obtain ⟨j, hj, rfl, H⟩ := hrel
    by_cases hlt : j < 8
    · have hg : (0 : Int) ≤ 7 - (j : Int) := by omega
      go_wp2_with fail
      go_loop [5, 6] (fun p k => ∃ t : Nat, t ≤ 7 - j ∧ k = .int .i64 (t : Int) ∧ p = .int .i64 ((16 ^ t : Nat) : Int)) (fun _ k => 7 - (intOf k).toNat)
      case atStart => exact ⟨0, Nat.zero_le _, rfl, rfl⟩
      case round =>
        obtain ⟨t, ht, rfl, rfl⟩ := hrel
        have hp7 : 16 ^ t ≤ 268435456 := Nat.le_trans (Nat.pow_le_pow_right (by omega) (show t ≤ 7 by omega)) (by decide)
        have hps : Hid (16 ^ (t + 1) = 16 * 16 ^ t) := by show _ = _; rw [Nat.pow_succ]; omega
        have hpp : 0 < 16 ^ t := Nat.pow_pos (by omega)
        by_cases htl : t < 7 - j
        · generalize 16 ^ t = PW at *
          have hc : (t : Int) < 7 - (j : Int) := by omega
          go_wp2_with fail
          go_round
          case rel => exact ⟨t + 1, by omega, by go_num, by rw [hps.out]; go_num⟩
          case measure => simp [intOf]; omega
        · obtain rfl : t = 7 - j := by omega
          have hc : ¬ (((7 - j : Nat) : Int) < 7 - (j : Int)) := by omega
          have HE := hide (eightL_succ n j)
          generalize 16 ^ (7 - j) = PW at *
          have hq : wrap64 ((n : Int) / (PW : Int)) = ((n / PW : Nat) : Int) := by
            have e1 : (n : Int) / (PW : Int) = ((n / PW : Nat) : Int) := by simp
            have e2 : n / PW ≤ n := Nat.div_le_self n PW
            have e3 : (0 : Int) ≤ ((n / PW : Nat) : Int) := Int.natCast_nonneg _
            have e4 : ((n / PW : Nat) : Int) ≤ (n : Int) := by exact_mod_cast e2
            rw [e1]
            generalize ((n / PW : Nat) : Int) = Z at *
            exact wrap64_in (by omega) (by omega)
          have hQ : n / PW < 4294967296 := Nat.lt_of_le_of_lt (Nat.div_le_self n PW) hn
          generalize n / PW = Q at *
          have hd1 : ∀ w', (Instr.index 9 (.string ⟨#[48, 49, 50, 51, 52, 53, 54, 55, 56, 57, 97, 98, 99, 100, 101, 102]⟩) (.int .i64 ((Q : Int) % 16))).run Tryz.prog w' = .ok (.int .u8 ((hd (Q % 16)).toNat : Int)) w' := fun w' => by
            have := ix_digs w' (Q % 16) (by omega) .i64
            rwa [show ((Q % 16 : Nat) : Int) = (Q : Int) % 16 by omega] at this
          obtain ⟨hown, hnx⟩ := H.out
          have hsize := hnx.size
          go_wp2_with (at_builtin; refine wpList_append_own _ rfl (.tmp 18) (.tmp 24) 101 rfl w.heap.size 5 i0 (.int .u8 0) 1 1 Tryz.underlying101 hi hz0 hz1 hz2 rfl (by decide) _ _ _ rfl (hown.alloc _) ⟨wr.heap.size, 0, none⟩ 1 1 [.int .u8 (hd (Q % 16)).toNat] rfl rfl (cell_one_new _ _ _) (one_of rfl) (by unfold maxLen; omega) (by omega) (by simp; omega) ?_; intro v1 w2 hown2 hgrow2 hnil2)
          have H2 : Hid (w2.ownsRow w.heap.size 5 1 v1 (j + 1) ((eightL n (j + 1)).map ub) ∧ Below w.heap.size w w2) := by
            refine ⟨?_, (hnx.alloc hsize _).grown hgrow2 (by simp; omega) (fun j hj => (hown.lt j hj).1)⟩
            rw [HE.out, List.map_append]
            exact hown2
          clear hown2 hgrow2 hnil2 hown hnx H
          go_roundw
          case rel => exact ⟨j + 1, by omega, by go_num, H2⟩
          case measure => simp [intOf]; omega
    · obtain rfl : j = 8 := by omega
      have hc := own_conv (P := Tryz.prog) (src := 101) (dst := 9) H.out.1 (by rw [eightL_len]) Tryz.underlying101 Tryz.underlying5 Tryz.underlying9
      go_wp2_with fail
      go_ret
      exact ⟨rfl, H.out.2⟩
end Go.Proofs.YtfpalfpfijcpbaaGreatDoor
namespace Go.Proofs.YtfpalfpfijcpbaaGreatDoor
open Go.RowKit Go.Shelf
theorem strOf_append (a b : List UInt8) : strOf (a ++ b) = strOf a ++ strOf b := by
  rw [← strOf_toList (strOf a ++ strOf b)]
  congr 1
theorem ba_eq {a b : ByteArray} (h : a.data.toList = b.data.toList) : a = b := by rw [← strOf_toList a, h, strOf_toList]
theorem ba_app (a b : ByteArray) : (a ++ b).data.toList = a.data.toList ++ b.data.toList := by simp
theorem seal_eq (s : ByteArray) (c : Nat) : s ++ ⟨#[115, 117, 109, 32]⟩ ++ strOf (hexL (be4 c)) ++ ⟨#[10]⟩ = s ++ strOf (sealL sumWd c) := by
  apply ba_eq
  simp only [ba_app, strOf_data, sealL, List.append_assoc]
  rfl
theorem ret_s {a b : ByteArray} (h : a = b) : Ending.returned (.string a) = .returned (.string b) := by rw [h]
set_option maxHeartbeats 1000000 in
set_option maxRecDepth 100000 in
theorem closed_any (s : ByteArray) (w : World) (hs : s.size ≤ 70368744177664) :
    Calls Tryz.prog 45 #[.string s] w fun e w' => e = .returned (.string (s ++ strOf (sealL sumWd (crcN 0 s.data.toList)))) ∧ Below w.heap.size w w' := by
  have C1 := hide (rcrc_any s w (by omega))
  have hlt : crcN 0 s.data.toList < 4294967296 := crcN_lt _ (by omega)
  have C2 := hide (fun w' => eight_any (crcN 0 s.data.toList) hlt w')
  have HE := hide (seal_eq s (crcN 0 s.data.toList))
  have hE : (strOf (hexL (be4 (crcN 0 s.data.toList)))).size = 8 := by rw [strOf_size, hexL_len]; rfl
  generalize strOf (sealL sumWd (crcN 0 s.data.toList)) = SL at *
  generalize strOf (hexL (be4 (crcN 0 s.data.toList))) = E at *
  generalize crcN 0 s.data.toList = c at *
  go_enter Tryz.func45, Tryz.ntmps45
  go_wp2_with fail
  refine Calls.mono C1.out ?_
  rintro e w1 ⟨rfl, rfl⟩
  go_wp2_with fail
  refine Calls.mono (C2.out _) ?_
  rintro e w2 ⟨rfl, b2⟩
  have hE2 : (s ++ ⟨#[115, 117, 109, 32]⟩).size + E.size ≤ 9223372036854775807 := by rw [ByteArray.size_append, hE]; show s.size + 4 + 8 ≤ _; omega
  go_wp2_with fail
  go_ret
  exact ⟨ret_s HE.out, b2⟩
def pS1 : ByteArray := ⟨#[103, 114, 97, 110, 97, 114, 121, 32, 108, 97, 116, 101, 115, 116, 32, 49, 10, 99, 117, 114, 32]⟩
def pS2 : ByteArray := ⟨#[10, 112, 114, 101, 118, 32]⟩
def pS3 : ByteArray := ⟨#[10, 101, 112, 111, 99, 104, 32]⟩
def pS4 : ByteArray := ⟨#[10, 115, 101, 113, 32]⟩
theorem ptr_eq (c p e s : Int) : pS1 ++ itS c ++ pS2 ++ itS p ++ pS3 ++ itS e ++ pS4 ++ itS s ++ nl = ptrTitle ++ strOf (ptrL c p e s) := by
  apply ba_eq
  simp only [ba_app, strOf_data, itS, ptrL, List.append_assoc]
  rfl
end Go.Proofs.YtfpalfpfijcpbaaGreatDoor
namespace Go.Proofs.YtfpalfpfijcpbaaGreatDoor
open Go.RowKit Go.Shelf
theorem ret_si {a b : ByteArray} {c d : Int} (h1 : a = b) (h2 : c = d) : Ending.returned (.tuple #[.string a, .int .i64 c]) = .returned (.tuple #[.string b, .int .i64 d]) := by rw [h1, h2]
theorem note_eq (c p e : Int) (n : Nat) : itS c ++ bl ++ itS p ++ bl ++ itS e ++ bl ++ strOf (hexL (be4 n)) ++ bl = strOf (noteL c p e (n : Int)) := by
  apply ba_eq
  simp only [ba_app, strOf_data, itS, noteL, List.append_assoc, List.nil_append, Int.toNat_natCast]
  rfl
theorem nseal_eq (s : ByteArray) (c : Nat) : s ++ strOf (hexL (be4 c)) ++ nl = s ++ strOf (sealL ⟨#[]⟩ c) := by
  apply ba_eq
  simp only [ba_app, strOf_data, sealL, List.append_assoc]
  rfl
end Go.Proofs.YtfpalfpfijcpbaaGreatDoor
