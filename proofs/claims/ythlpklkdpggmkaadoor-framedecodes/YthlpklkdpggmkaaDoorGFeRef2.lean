import Derived.Test.YthlpklkdpggmkaaDoorGDjJoin
namespace Go.Proofs.YthlpklkdpggmkaaDoor
open Go.RowKit
theorem rep_set (n : Nat) (v : Value) (l : List Value) (h : 0 < n) : (List.replicate n (Value.int .u8 0) ++ l).set (n - 1) v = List.replicate (n - 1) (Value.int .u8 0) ++ v :: l := by
  obtain ⟨k, rfl⟩ : ∃ k, n = k + 1 := ⟨n - 1, by omega⟩
  rw [List.replicate_succ', List.append_assoc]
  simp
theorem rep_at (n : Nat) (l : List Value) (h : 0 < n) : (List.replicate n (Value.int .u8 0) ++ l)[n - 1]? = some (.int .u8 0) := by
  rw [List.getElem?_append_left (by simp; omega), List.getElem?_replicate, if_pos (by omega)]
theorem div_pow (N k : Nat) : N / 256 ^ k / 256 = N / 256 ^ (k + 1) := by rw [Nat.div_div_eq_div_mul, Nat.pow_succ]
set_option maxHeartbeats 2000000 in
set_option maxRecDepth 100000 in
/-- digits -/
theorem digits_any (N wd : Nat) (hw : wd ≤ 8) (hN : N < 9223372036854775808) (w : World) :
    Calls Tryd.prog 27 #[.int .i64 (N : Int), .int .i64 (wd : Int)] w fun e w' => e = .returned (.string (strOf (dig wd N))) ∧ Below w.heap.size w w' := by
  obtain ⟨i0, hi, hz0, hz1, hz2⟩ := info_partsF info5
  go_enter Tryd.func27, Tryd.ntmps27
  go_wp2_with (at_make; refine wpList_make_full _ rfl _ _ 56 rfl w.heap.size 5 i0 (.int .u8 0) 1 Tryd.underlying56 hi hz0 hz1 _ _ _ _ wd rfl rfl (by omega) (by omega) (by rw [hz2]; omega) (by unfold maxLen; omega) (Nat.le_refl _) ?_)
  intro w1 hown1 hgrow1
  have hb1 : Below w.heap.size w w1 := (Below.refl _ w).grown hgrow1 (Nat.le_refl _) (by simp)
  rw [toList_madeCells_one] at hown1
  go_wp2
  go_loopw [0, 6] (fun n i wr => ∃ k : Nat, k ≤ wd ∧ i = .int .i64 k ∧ n = .int .i64 ((N / 256 ^ k : Nat) : Int) ∧ wr.ownsRow w.heap.size 5 1 (.slice (some ⟨w.heap.size, 0, none⟩) wd wd) wd (List.replicate (wd - k) (Value.int .u8 0) ++ (dig k N).map ub) ∧ Below w.heap.size w wr) (fun _ i _ => wd - (intOf i).toNat)
  case atStart => exact ⟨0, Nat.zero_le _, rfl, by simp, by simpa [dig] using hown1, hb1⟩
  case round =>
    obtain ⟨k, hk, rfl, rfl, hown, hnx⟩ := hrel
    by_cases hlt : k < wd
    · have hX : N / 256 ^ k < 9223372036854775808 := Nat.lt_of_le_of_lt (Nat.div_le_self _ _) hN
      have HD := hide (div_pow N k)
      have HC := hide (dig_cons k N)
      have hc1 := hown.cellAt (wd - 1 - k) (by omega)
      rw [show wd - 1 - k = wd - k - 1 by omega, rep_at (wd - k) _ (by omega)] at hc1
      have hc2 := hown.frozenAt (wd - k - 1)
      have HS := hide (fun v => hown.stored (wd - k - 1) v)
      have HQ := hide (fun v => rep_set (wd - k) v ((dig k N).map ub) (by omega))
      generalize hXX : N / 256 ^ k = X at *
      have hb8 := u8_nat X
      have e1 : (wd : Int) - 1 - (k : Int) = ((wd - k - 1 : Nat) : Int) := by omega
      have e2 : (wd - k - 1 : Nat) < wd := by omega
      have HN := hide hnx
      clear hown hnx
      have EV := hide (show Value.int .u8 ((X : Int) % 256) = ub (UInt8.ofNat X) by unfold ub; rw [UInt8.toNat_ofNat']; congr 1)
      go_wp2_with fail
      refine ⟨⟨k + 1, by omega, by go_num, by rw [← HD.out]; rfl, ?_, HN.out.setCell (Nat.le_refl _) _⟩, by simp [intOf]; omega⟩
      have st := (HS.out (.int .u8 ((X : Int) % 256))).1
      rw [HQ.out] at st
      rw [HC.out, List.map_cons, ← EV.out, show wd - (k + 1) = wd - k - 1 by omega]
      exact st
    · obtain rfl : k = wd := by omega
      rw [Nat.sub_self, List.replicate_zero, List.nil_append] at hown
      have hcv : (convert 56 9 (.slice (some ⟨w.heap.size, 0, none⟩) k k)).run Tryd.prog wr = .ok (.string (strOf (dig k N))) wr := own_conv hown (dig_len k N).symm Tryd.underlying56 Tryd.underlying5 Tryd.underlying9
      clear hown
      go_wp2_with fail
      go_ret
      exact ⟨rfl, hnx⟩
set_option maxHeartbeats 1000000 in
set_option maxRecDepth 100000 in
/-- sum -/
theorem rsum_any (s : ByteArray) (hs : s.size ≤ 1000000) (w : World) :
    Calls Tryd.prog 28 #[.string s] w fun e w' => e = .returned (.string (strOf (le4 (crcN 0 s.data.toList)))) ∧ Below w.heap.size w w' := by
  have C := hide (rcrc_any s w (by omega))
  have hc : crcN 0 s.data.toList < 4294967296 := crcN_lt _ (by omega)
  generalize crcN 0 s.data.toList = c at *
  have ea : (#[.int .u8 ((c : Int) % 256), .int .u8 ((c : Int) / 256 % 256), .int .u8 ((c : Int) / 65536 % 256), .int .u8 ((c : Int) / 16777216 % 256)] : Array Value).toList = (le4 c).map ub := by
    simp only [le4, ub, List.map_cons, List.map_nil, UInt8.toNat_ofNat']
    rw [show ((c : Int) % 256) = ((c % 2 ^ 8 : Nat) : Int) by omega, show ((c : Int) / 256 % 256) = ((c / 256 % 2 ^ 8 : Nat) : Int) by omega, show ((c : Int) / 65536 % 256) = ((c / 65536 % 2 ^ 8 : Nat) : Int) by omega, show ((c : Int) / 16777216 % 256) = ((c / 16777216 % 2 ^ 8 : Nat) : Int) by omega]
  have hcv := own_conv (P := Tryd.prog) (dst := 9) (ea ▸ World.ownsRow_lit (base := w.heap.size) (e := 5) (size := 1) w #[.int .u8 ((c : Int) % 256), .int .u8 ((c : Int) / 256 % 256), .int .u8 ((c : Int) / 65536 % 256), .int .u8 ((c : Int) / 16777216 % 256)] 4 (Nat.le_refl _) (by unfold maxLen; omega) rfl) rfl Tryd.underlying56 Tryd.underlying5 Tryd.underlying9
  clear ea
  go_enter Tryd.func28, Tryd.ntmps28
  go_wp2_with fail
  refine Calls.mono C.out ?_
  rintro e w1 ⟨rfl, rfl⟩
  go_wp2_with fail
  go_ret
  exact ⟨rfl, (Below.refl _ _).alloc (Nat.le_refl _) _⟩
end Go.Proofs.YthlpklkdpggmkaaDoor
namespace Go.Proofs.YthlpklkdpggmkaaDoor
open Go.RowKit
theorem val_mono (l : List UInt8) (k : Nat) : val (l.take k) ≤ val l := by
  by_cases h : k < l.length
  · induction hn : l.length - k generalizing k with
    | zero => omega
    | succ n ih =>
      have e := val_take l k h
      by_cases h2 : k + 1 < l.length
      · have := ih (k + 1) h2 (by omega); omega
      · have : l.take (k + 1) = l := List.take_of_length_le (by omega)
        rw [this] at e
        omega
  · rw [List.take_of_length_le (by omega)]; exact Nat.le_refl _
/-- the bytes of a number that stands in a text -/
def numB (s : ByteArray) (a w : Nat) : List UInt8 := (s.data.toList.drop a).take w
def numD (s : ByteArray) (a w : Nat) : Int := if val (numB s a w) > 9007199254740992 then -1 else (val (numB s a w) : Int)
theorem numB_len (s : ByteArray) (a w : Nat) (h : a + w ≤ s.size) : (numB s a w).length = w := by
  unfold numB; rw [List.length_take, List.length_drop, size_data]; omega
set_option maxHeartbeats 1000000 in
set_option maxRecDepth 100000 in
theorem number_any (s : ByteArray) (a wd : Nat) (h : a + wd ≤ s.size) (hs : a + wd ≤ 1000000000000) (w : World) :
    Calls Tryd.prog 29 #[.string s, .int .i64 (a : Int), .int .i64 (wd : Int)] w fun e w' => e = .returned (.int .i64 (numD s a wd)) ∧ w = w' := by
  have hl := numB_len s a wd h
  go_enter Tryd.func29, Tryd.ntmps29
  go_wp2
  go_loopw [7, 8] (fun n i wr => ∃ k : Nat, k ≤ wd ∧ i = .int .i64 (k : Int) ∧ n = .int .i64 (val ((numB s a wd).take k) : Int) ∧ val ((numB s a wd).take k) ≤ 9007199254740992 ∧ w = wr) (fun _ i _ => wd - (intOf i).toNat)
  case atStart => exact ⟨0, by omega, rfl, rfl, by rw [List.take_zero, val_nil]; omega, rfl⟩
  case round =>
    obtain ⟨k, hk, rfl, rfl, hle, rfl⟩ := hrel
    by_cases hlt : k < wd
    · have hkl : k < (numB s a wd).length := by omega
      have hx : ∀ w', (Instr.index 9 (.string s) (.int .i64 ((a : Int) + (k : Int)))).run Tryd.prog w' = .ok (.int .u8 ((numB s a wd)[k].toNat : Int)) w' := fun w' => by
        have e := ix_str w' s (a + k) (by omega)
        have eb : (numB s a wd)[k] = s[a + k]'(by omega) := by
          have e1 : (numB s a wd)[k]? = some (s[a + k]'(by omega)) := by
            unfold numB
            rw [List.getElem?_take_of_lt hlt, List.getElem?_drop, List.getElem?_eq_getElem (by rw [size_data]; omega)]; rfl
          rw [List.getElem?_eq_getElem hkl] at e1
          exact Option.some.inj e1
        rw [eb, show (a : Int) + (k : Int) = ((a + k : Nat) : Int) by omega]
        exact e
      have hX : (numB s a wd)[k].toNat < 256 := UInt8.toNat_lt _
      have hv := val_take (numB s a wd) k hkl
      have hmono := val_mono (numB s a wd) (k + 1)
      have HD : Hid (val ((numB s a wd).take (k + 1)) > 9007199254740992 → numD s a wd = -1) := fun hg => by
        unfold numD; rw [if_pos (by omega)]
      generalize (numB s a wd)[k].toNat = X at *
      obtain ⟨V1, hV1⟩ : ∃ V1, V1 = val ((numB s a wd).take (k + 1)) := ⟨_, rfl⟩
      have HE := hide hV1
      rw [← hV1] at hv hmono HD
      clear hV1
      generalize val ((numB s a wd).take k) = V0 at *
      have hmul : 256 * (V0 : Int) + (X : Int) = (V1 : Int) := by omega
      by_cases hg : V1 > 9007199254740992
      · have hgi : (9007199254740992 : Int) < (V1 : Int) := by omega
        have ED := hide (HD.out hg)
        clear hv
        go_wp2
        go_ret
        exact ⟨by rw [ED.out]; rfl, rfl⟩
      · have hgi : ¬ (9007199254740992 : Int) < (V1 : Int) := by omega
        clear hv
        go_wp2
        go_roundw
        case rel => exact ⟨k + 1, by omega, by go_num, by rw [← HE.out], by rw [← HE.out]; omega, trivial⟩
        case measure => simp [intOf]; omega
    · obtain rfl : k = wd := by omega
      rw [List.take_of_length_le (by omega)] at hle ⊢
      have ED : Hid (numD s a k = (val (numB s a k) : Int)) := if_neg (by omega)
      go_wp2
      go_ret
      exact ⟨by rw [ED.out]; rfl, rfl⟩
def longD (s : ByteArray) (a w : Nat) : Int := if a + w > s.size then 0 else numD s a w
theorem longD_in (s : ByteArray) (a w : Nat) (h : w ≤ 4) : ∃ N : Nat, longD s a w = (N : Int) ∧ N < 4294967296 := by
  unfold longD
  split
  · exact ⟨0, rfl, by omega⟩
  · have hl := numB_len s a w (by omega)
    have hv := val_lt (numB s a w)
    rw [hl] at hv
    have h4 : val (numB s a w) < 4294967296 := Nat.lt_of_lt_of_le hv (Nat.le_trans (Nat.pow_le_pow_right (by omega) h) (by decide))
    unfold numD
    rw [if_neg (by omega)]
    exact ⟨_, rfl, h4⟩
set_option maxHeartbeats 1000000 in
set_option maxRecDepth 100000 in
theorem long_any (s : ByteArray) (a wd : Nat) (ha : a ≤ 1000000000000) (hw : wd ≤ 8) (hs : s.size ≤ 1000000) (w : World) :
    Calls Tryd.prog 41 #[.string s, .int .i64 (a : Int), .int .i64 (wd : Int)] w fun e w' => e = .returned (.int .i64 (longD s a wd)) ∧ w = w' := by
  unfold longD
  split
  · have hgt : (s.size : Int) < (a : Int) + (wd : Int) := by omega
    go_enter Tryd.func41, Tryd.ntmps41
    go_wp2
    go_ret
    exact ⟨rfl, rfl⟩
  · have hgt : ¬ (s.size : Int) < (a : Int) + (wd : Int) := by omega
    have C := hide (number_any s a wd (by omega) (by omega) w)
    generalize numD s a wd = N at *
    go_enter Tryd.func41, Tryd.ntmps41
    go_wp2_with fail
    refine Calls.mono C.out ?_
    rintro e wx ⟨rfl, rfl⟩
    go_wp2_with fail
    go_ret
    exact ⟨rfl, rfl⟩
/-- a piece of a text, as far as it goes -/
def pieceS (s : ByteArray) (a n : Nat) : ByteArray := s.extract (min a s.size) (min a s.size + min n (s.size - min a s.size))
set_option maxHeartbeats 2000000 in
set_option maxRecDepth 100000 in
theorem piece_any (s : ByteArray) (a n : Nat) (hn : n ≤ 1000000000000) (hs : s.size ≤ 1000000) (w : World) :
    Calls Tryd.prog 42 #[.string s, .int .i64 (a : Int), .int .i64 (n : Int)] w fun e w' => e = .returned (.string (pieceS s a n)) ∧ w = w' := by
  by_cases h1 : s.size < a
  · have e : pieceS s a n = ByteArray.empty := by
      refine ByteArray.ext (Array.eq_empty_of_size_eq_zero ?_)
      show (pieceS s a n).size = 0
      unfold pieceS
      rw [ByteArray.size_extract]
      omega
    rw [e]
    have g1 : (s.size : Int) < (a : Int) := by omega
    by_cases h2 : 0 < n
    · have g2 : (0 : Int) < (n : Int) := by omega
      go_enter Tryd.func42, Tryd.ntmps42
      go_wp2
      go_ret
      exact ⟨rfl, rfl⟩
    · obtain rfl : n = 0 := by omega
      go_enter Tryd.func42, Tryd.ntmps42
      go_wp2
      go_ret
      exact ⟨rfl, rfl⟩
  · have g1 : ¬ (s.size : Int) < (a : Int) := by omega
    by_cases h2 : s.size - a < n
    · have e : pieceS s a n = s.extract a s.size := by unfold pieceS; rw [show min a s.size = a by omega, show a + min n (s.size - a) = s.size by omega]
      rw [e]
      have g2 : (s.size : Int) - (a : Int) < (n : Int) := by omega
      have g3 : (a : Int) + ((s.size : Int) - (a : Int)) = (s.size : Int) := by omega
      go_enter Tryd.func42, Tryd.ntmps42
      go_wp2
      go_ret
      exact ⟨rfl, rfl⟩
    · have e : pieceS s a n = s.extract a (a + n) := by unfold pieceS; rw [show min a s.size = a by omega, show a + min n (s.size - a) = a + n by omega]
      rw [e]
      have g2 : ¬ (s.size : Int) - (a : Int) < (n : Int) := by omega
      have g4 : ¬ (s.size : Int) < (a : Int) + (n : Int) := by omega
      have g5 : ¬ (a : Int) + (n : Int) < (a : Int) := by omega
      go_enter Tryd.func42, Tryd.ntmps42
      go_wp2
      go_ret
      exact ⟨rfl, rfl⟩
end Go.Proofs.YthlpklkdpggmkaaDoor
namespace Go.Proofs.YthlpklkdpggmkaaDoor
open Go.RowKit
theorem bodyL_of {m : MM} {k : Nat} (hF : FitAll m k) : bodyL m = (bodyF k).flatMap (fldL m) := by unfold bodyL; rw [hF.1]; rfl
theorem knd_enc {m : MM} {k : Nat} (h1 : 1 ≤ k) (h16 : k ≤ 16) (hF : FitAll m k) : kndF (encS m) = k := by
  unfold kndF
  rw [enc_parts m k h1 h16 hF.1 hF.fit]
  show (UInt8.ofNat k).toNat = k
  rw [UInt8.toNat_ofNat']
  omega
/-- a field of the body stands where those ahead of it end -/
theorem at_field {m : MM} {k : Nat} (h1 : 1 ≤ k) (h16 : k ≤ 16) (hF : FitAll m k) (q : Nat) (hq : q < (bodyF k).length) :
    ∃ R, (encS m).data.toList.drop (20 + (((bodyF k).take q).flatMap (fldL m)).length) = fldL m (bodyF k)[q] ++ R := by
  have hp := enc_parts m k h1 h16 hF.1 hF.fit
  have hh := head_len m
  have eB : bodyL m = ((bodyF k).take q).flatMap (fldL m) ++ (fldL m (bodyF k)[q] ++ ((bodyF k).drop (q + 1)).flatMap (fldL m)) := by
    rw [bodyL_of hF]
    conv => lhs; rw [← List.take_append_drop q (bodyF k), List.drop_eq_getElem_cons hq]
    rw [List.flatMap_append, List.flatMap_cons]
  refine ⟨((bodyF k).drop (q + 1)).flatMap (fldL m) ++ le4 (crcN 0 (textL m)), ?_⟩
  obtain ⟨LB, hLB⟩ : ∃ LB, LB = (bodyL m).length := ⟨_, rfl⟩
  rw [← hLB] at hp
  have e : (encS m).data.toList = ([71, 82, 1, UInt8.ofNat k] ++ headF.flatMap (fldL m) ++ dig 4 LB ++ ((bodyF k).take q).flatMap (fldL m)) ++ (fldL m (bodyF k)[q] ++ (((bodyF k).drop (q + 1)).flatMap (fldL m) ++ le4 (crcN 0 (textL m)))) := by
    rw [hp, eB]
    simp only [List.append_assoc]
  rw [e, List.drop_left' (by simp only [List.length_append, hh, dig_len, List.length_cons, List.length_nil])]
/-- a number that stands at a place -/
theorem num_here {s : ByteArray} {a : Nat} {m : MM} {k i : Nat} {R : List UInt8} (hi : i < 10) (hf : fitAt m k i = true) (ht : isTx i = false) (h : s.data.toList.drop a = fldL m i ++ R) : a + widF i ≤ s.size ∧ numD s a (widF i) = m.num i := by
  have h0 := (fit_at hf).1
  obtain ⟨N, hN⟩ : ∃ N : Nat, m.num i = (N : Int) := ⟨_, (Int.toNat_of_nonneg h0).symm⟩
  have e : fldL m i = dig (widF i) N := by unfold fldL; rw [ht, hN]; rfl
  have hm := mostK_le k i
  have hM := mostF_le i hi
  have hw := widF_most i hi
  unfold fitAt at hf
  simp only [Bool.and_eq_true, decide_eq_true_eq] at hf
  obtain ⟨⟨f1, f2⟩, f3⟩ := hf
  rw [hN] at f2
  rw [e] at h
  have hl := congrArg List.length h
  rw [List.length_drop, List.length_append, dig_len, size_data] at hl
  have hw1 : 1 ≤ widF i := by unfold widF; split <;> omega
  refine ⟨by omega, ?_⟩
  have hb : numB s a (widF i) = dig (widF i) N := by unfold numB; rw [h, List.take_left' (dig_len _ _)]
  unfold numD
  rw [hb, val_dig _ _ (by omega), if_neg (by omega), hN]
theorem long_here {s : ByteArray} {a : Nat} {m : MM} {k i : Nat} {R : List UInt8} (hi : i < 10) (hf : fitAt m k i = true) (ht : isTx i = false) (h : s.data.toList.drop a = fldL m i ++ R) : longD s a (widF i) = m.num i := by
  obtain ⟨h1, h2⟩ := num_here hi hf ht h
  unfold longD
  rw [if_neg (by omega), h2]
/-- a text that stands at a place -/
theorem txt_here {s : ByteArray} {a : Nat} {m : MM} {k i : Nat} {R : List UInt8} (hi : i < 10) (hf : fitAt m k i = true) (ht : isTx i = true) (h : s.data.toList.drop a = fldL m i ++ R) : longD s a (widF i) = ((m.txt i).size : Int) ∧ pieceS s (a + widF i) (m.txt i).size = m.txt i := by
  have e : fldL m i = dig (widF i) (m.txt i).size ++ (m.txt i).data.toList := by unfold fldL; rw [ht]; rfl
  have f2 := (fit_txt hi hf).2
  have hM := mostF_le i hi
  have hw := widF_most i hi
  rw [e, List.append_assoc] at h
  generalize m.txt i = t at *
  have hl := congrArg List.length h
  rw [List.length_drop, List.length_append, List.length_append, dig_len, size_data, size_data] at hl
  have hw1 : 1 ≤ widF i := by unfold widF; split <;> omega
  have hb : numB s a (widF i) = dig (widF i) t.size := by unfold numB; rw [h, List.take_left' (dig_len _ _)]
  refine ⟨?_, ?_⟩
  · unfold longD
    rw [if_neg (by omega)]
    unfold numD
    rw [hb, val_dig _ _ (by omega), if_neg (by omega)]
  · unfold pieceS
    rw [show min (a + widF i) s.size = a + widF i by omega, show min t.size (s.size - (a + widF i)) = t.size by omega]
    rw [← strOf_toList (s.extract (a + widF i) (a + widF i + t.size)), slice_str, ← List.drop_drop, h, List.drop_left' (dig_len _ _), show a + widF i + t.size - (a + widF i) = t.size by omega, List.take_left' (size_data t), strOf_toList]
theorem putAll_snoc (m : MM) (i : Nat) : ∀ (l : List Nat) (a : MM), putAll m (l ++ [i]) a = (putAll m l a).put i (m.num i) (m.txt i) := by
  intro l
  induction l with
  | nil => intro a; rfl
  | cons j l ih => intro a; rw [List.cons_append, putAll, putAll, ih]
theorem put_num_any (m : MM) (i : Nat) (ht : isTx i = false) (n : Int) (t u : ByteArray) : m.put i n t = m.put i n u := by
  unfold isTx at ht
  unfold MM.put
  split <;> first | rfl | simp at ht
theorem put_txt_any (m : MM) (i : Nat) (ht : isTx i = true) (n o : Int) (t : ByteArray) : m.put i n t = m.put i o t := by
  unfold isTx at ht
  split at ht <;> first | rfl | simp at ht
theorem putAll_whole (m : MM) (k : Nat) (h16 : k ≤ 16) (hF : FitAll m k) : putAll m (bodyF k) (putAll m headF (mm0 k)) = m := by
  have hk := hF.1
  have hfa := hF.2
  have hlt := bodyF_lt k h16
  refine MM.ext10 (by rw [putAll_kind, putAll_kind, hk]; rfl) fun j hj => ?_
  obtain ⟨a1, a2⟩ := putAll_at m (bodyF k) (putAll m headF (mm0 k)) (fun i hi => (hlt i hi).2) j hj
  obtain ⟨b1, b2⟩ := putAll_at m headF (mm0 k) (fun i hi => by have := headF_lt i hi; omega) j hj
  rw [a1, a2, b1, b2]
  by_cases c1 : j ∈ bodyF k
  · rw [if_pos c1, if_pos c1]; exact ⟨rfl, rfl⟩
  · rw [if_neg c1, if_neg c1]
    by_cases c2 : j ∈ headF
    · rw [if_pos c2, if_pos c2]; exact ⟨rfl, rfl⟩
    · rw [if_neg c2, if_neg c2]
      have hfj := hfa j hj
      have h3 : ¬ j < 3 := fun x => c2 (by have : j = 0 ∨ j = 1 ∨ j = 2 := by omega
                                           rcases this with rfl | rfl | rfl <;> decide)
      have hz : mostK k j = 0 := by unfold mostK; rw [if_neg (by rintro (x | x); exact h3 x; exact c1 x)]
      unfold fitAt at hfj
      simp only [Bool.and_eq_true, decide_eq_true_eq, hz] at hfj
      have z1 : m.num j = 0 := by omega
      have z2 : m.txt j = ⟨#[]⟩ := ByteArray.ext (Array.eq_empty_of_size_eq_zero (by show (m.txt j).size = 0; omega))
      rw [z1, z2]
      rcases ten_cases hj with rfl | rfl | rfl | rfl | rfl | rfl | rfl | rfl | rfl | rfl <;> exact ⟨rfl, rfl⟩
/-- the head's three numbers -/
theorem head_here {m : MM} {k : Nat} (h1 : 1 ≤ k) (h16 : k ≤ 16) (hF : FitAll m k) : numD (encS m) 4 2 = m.n0 ∧ numD (encS m) 6 2 = m.n1 ∧ numD (encS m) 8 8 = m.n2 := by
  have hp := enc_parts m k h1 h16 hF.1 hF.fit
  have e0 : (fldL m 0).length = 2 := dig_len _ _
  have e1 : (fldL m 1).length = 2 := dig_len _ _
  have hf3 : headF.flatMap (fldL m) = fldL m 0 ++ (fldL m 1 ++ (fldL m 2 ++ [])) := rfl
  rw [hf3] at hp
  simp only [List.append_assoc, List.nil_append] at hp
  generalize dig 4 (bodyL m).length ++ (bodyL m ++ le4 (crcN 0 (textL m))) = R at hp
  refine ⟨?_, ?_, ?_⟩
  · exact (num_here (i := 0) (R := fldL m 1 ++ (fldL m 2 ++ R)) (by omega) (hF.2 0 (by omega)) rfl (show (encS m).data.toList.drop 4 = _ by rw [hp, List.drop_left' (show ([71, 82, 1, UInt8.ofNat k] : List UInt8).length = 4 from rfl)])).2
  · refine (num_here (i := 1) (R := fldL m 2 ++ R) (by omega) (hF.2 1 (by omega)) rfl (show (encS m).data.toList.drop 6 = _ by
      rw [hp, ← List.append_assoc, List.drop_left' (by rw [List.length_append, e0]; rfl)])).2
  · refine (num_here (i := 2) (R := R) (by omega) (hF.2 2 (by omega)) rfl (show (encS m).data.toList.drop 8 = _ by
      rw [hp, ← List.append_assoc, ← List.append_assoc, List.drop_left' (by rw [List.length_append, List.length_append, e0, e1]; rfl)])).2
/-- what is read is so far the message, if the text is its frame -/
def SoFar (s : ByteArray) (k q a : Nat) (m1 : MM) : Prop := ∀ m, FitAll m k → encS m = s → a = 20 + (((bodyF k).take q).flatMap (fldL m)).length ∧ m1 = putAll m ((bodyF k).take q) (putAll m headF (mm0 k))
theorem SoFar.start (s : ByteArray) (k : Nat) (h1 : 1 ≤ k) (h16 : k ≤ 16) : SoFar s k 0 20 ⟨(k : Int), numD s 4 2, numD s 6 2, numD s 8 8, 0, 0, 0, 0, 0, ⟨#[]⟩, ⟨#[]⟩⟩ := by
  intro m hF e
  refine ⟨rfl, ?_⟩
  obtain ⟨a, b, c⟩ := head_here h1 h16 hF
  rw [← e, a, b, c]
  rfl
theorem take_next (k q : Nat) (hq : q < (bodyF k).length) : (bodyF k).take (q + 1) = (bodyF k).take q ++ [(bodyF k)[q]] := List.take_succ_eq_append_getElem hq
theorem SoFar.num {s : ByteArray} {k q a : Nat} {m1 : MM} (h1 : 1 ≤ k) (h16 : k ≤ 16) (h : SoFar s k q a m1) (hq : q < (bodyF k).length) (i : Nat) (hi : (bodyF k)[q] = i) (ht : isTx i = false) (t : ByteArray) : SoFar s k (q + 1) (a + widF i) (m1.put i (longD s a (widF i)) t) := by
  intro m hF e
  obtain ⟨ha, hm⟩ := h m hF e
  have hlt := (bodyF_lt k h16 _ (List.getElem_mem hq)).2
  rw [hi] at hlt
  obtain ⟨R, hR⟩ := at_field h1 h16 hF q hq
  rw [hi, ← ha, e] at hR
  have hn := long_here hlt (hF.2 i hlt) ht hR
  rw [take_next k q hq, hi]
  refine ⟨?_, ?_⟩
  · rw [List.flatMap_append, List.length_append, ha]
    have : ([i].flatMap (fldL m)).length = widF i := by
      rw [List.flatMap_cons, List.flatMap_nil, List.append_nil]; unfold fldL; rw [ht]; exact dig_len _ _
    omega
  · rw [putAll_snoc, ← hm, hn]
    exact put_num_any _ _ ht _ _ _
theorem SoFar.txt {s : ByteArray} {k q a : Nat} {m1 : MM} (h1 : 1 ≤ k) (h16 : k ≤ 16) (h : SoFar s k q a m1) (hq : q < (bodyF k).length) (i : Nat) (hi : (bodyF k)[q] = i) (ht : isTx i = true) (N : Nat) (hN : longD s a (widF i) = (N : Int)) (n : Int) : SoFar s k (q + 1) (a + (widF i + N)) (m1.put i n (pieceS s (a + widF i) N)) := by
  intro m hF e
  obtain ⟨ha, hm⟩ := h m hF e
  have hlt := (bodyF_lt k h16 _ (List.getElem_mem hq)).2
  rw [hi] at hlt
  obtain ⟨R, hR⟩ := at_field h1 h16 hF q hq
  rw [hi, ← ha, e] at hR
  obtain ⟨t1, t2⟩ := txt_here hlt (hF.2 i hlt) ht hR
  have hNs : N = (m.txt i).size := by rw [hN] at t1; omega
  rw [take_next k q hq, hi]
  refine ⟨?_, ?_⟩
  · rw [List.flatMap_append, List.length_append, ha]
    have : ([i].flatMap (fldL m)).length = widF i + (m.txt i).size := by
      rw [List.flatMap_cons, List.flatMap_nil, List.append_nil]; unfold fldL; rw [ht, if_pos rfl, List.length_append, dig_len, size_data]
    omega
  · rw [putAll_snoc, ← hm, hNs, t2]
    exact put_txt_any _ _ ht _ _ _
theorem SoFar.done {s : ByteArray} {k q a : Nat} {m1 : MM} (h16 : k ≤ 16) (h : SoFar s k q a m1) (hq : (bodyF k).length ≤ q) : ∀ m, FitAll m k → encS m = s → m1 = m := by
  intro m hF e
  obtain ⟨_, hm⟩ := h m hF e
  rw [List.take_of_length_le hq] at hm
  rw [hm]
  exact putAll_whole m k h16 hF
end Go.Proofs.YthlpklkdpggmkaaDoor
