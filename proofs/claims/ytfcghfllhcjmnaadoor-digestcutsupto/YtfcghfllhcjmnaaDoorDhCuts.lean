import Derived.Test.YtfcghfllhcjmnaaDoorDhTwin
namespace Go.Proofs.YtfcghfllhcjmnaaDoor
open Go.RowKit
theorem num_any (d : Int) (w : World) :
    Calls Tryd.prog 16 #[.int .i64 d] w fun e w' => e = .returned (.int .i64 d) ∧ w = w' := by
  go_enter Tryd.func16, Tryd.ntmps16
  go_wp2
  go_ret
  exact ⟨rfl, rfl⟩
theorem SL.below {lo : Nat} {w w' : World} {v : Value} {xs : List ByteArray} (h : SL lo w v xs) (hb : Below w.heap.size w w') : SL lo w' v xs := by
  rcases h with h | ⟨B, c, h1, h2, h3, h4, h5⟩
  · exact Or.inl h
  · exact Or.inr ⟨B, c, h1, h2, h3, Nat.lt_of_lt_of_le h4 hb.size, fun j x hx => (hb.cell (p := ⟨B, 0 + j, none⟩) h4).trans (h5 j x hx)⟩
theorem md5_sl {lo : Nat} {w : World} {v : Value} {xs : List ByteArray} (h : SL lo w v xs) (hT : Tabs w) (hlen : xs.length ≤ 1099511627776) (hs : (cat xs).length ≤ 1099511627776) :
    Calls Tryd.prog 11 #[v] w fun e w' => e = .returned (.string (strOf (md5L (cat xs)))) ∧ Below w.heap.size w w' := by
  rcases h with ⟨rfl, rfl⟩ | ⟨B, c, h1, h2, rfl, h4, h5⟩
  · exact md5_none w hT
  · exact md5_any _ B 0 c xs w (fun _ => rfl) (fun _ => h4) h5 hlen hs hT.room hT.sines hT.turns
theorem mem_cat {xs : List ByteArray} {x : ByteArray} (h : x ∈ xs) : x.size ≤ (cat xs).length := by
  obtain ⟨k, hk, rfl⟩ := List.getElem_of_mem h
  exact cat_mem hk
theorem crc_sl {lo : Nat} {w : World} {v : Value} {xs : List ByteArray} (h : SL lo w v xs) (hT : Tabs w) (hlen : xs.length ≤ 1099511627776) (hs : (cat xs).length ≤ 1099511627776) :
    Calls Tryd.prog 14 #[v] w fun e w' => e = .returned (.int .i64 (crcN 0 (cat xs) : Int)) ∧ w = w' := by
  rcases h with ⟨rfl, rfl⟩ | ⟨B, c, h1, h2, rfl, h4, h5⟩
  · exact crc_any none 0 0 0 [] w (fun h => by simp at h) (fun j x hx => by simp at hx) (by simp) (fun x hx => by simp at hx) hT.four
  · exact crc_any _ B 0 c xs w (fun _ => rfl) h5 hlen (fun x hx => Nat.le_trans (mem_cat hx) hs) hT.four
set_option maxHeartbeats 4000000 in
set_option maxRecDepth 100000 in
/-- the law DigestCuts -/
theorem cuts_any (ao : Option Addr) (b off cap : Nat) (xs : List ByteArray) (w : World) (hao : 0 < xs.length → ao = some ⟨b, off, none⟩) (hb : 0 < xs.length → b < w.heap.size) (hl : Lies b off w xs) (hlen : xs.length ≤ 1048576) (hs : (cat xs).length ≤ 1048576) (hT : Tabs w) :
    Calls Tryd.prog 6 #[.slice ao xs.length cap] w fun e w' => e = .returned (.bool true) ∧ Below w.heap.size w w' := by
  have HT := hide hT
  have HL := hide hl
  have hroom := hT.room
  clear hT hl
  go_enter Tryd.func6, Tryd.ntmps6
  go_wp2_with fail
  refine Calls.mono (known_any _ HT.out) ?_
  rintro e w1 ⟨rfl, hb1⟩
  have HT1 := hide (HT.out.below hb1)
  have hs1 := hb1.size
  go_wp2_with fail
  refine Calls.mono (new_any _ HT1.out) ?_
  rintro e w2 ⟨B1, rfl, hB1, hS1, hb2⟩
  have HT2 := hide (HT1.out.below hb2)
  have hs2 := hb2.size
  have hB1' := hS1.lt
  go_wp2_with fail
  refine Calls.mono (new_any _ HT2.out) ?_
  rintro e w3 ⟨B2, rfl, hB2, hS2, hb3⟩
  have hs3 := hb3.size
  have hS1' := hS1.below hb3
  have hB3 : Below w.heap.size w w3 := (hb1.trans (hb2.mono hs1)).trans (hb3.mono (Nat.le_trans hs1 hs2))
  have H1 := hide hS1'
  have H2 := hide hS2
  have HB3 := hide hB3
  clear hb1 hb2 hb3 hS1 hS1' hS2 hB3 HT1 HT2
  have hne : B1 ≠ B2 := by omega
  have h31 : 3 ≤ B1 := by omega
  have h32 : 3 ≤ B2 := by omega
  go_wp2_with fail
  go_loopw [6, 7] (fun so i wr => ∃ (k : Nat) (S : ByteArray), k ≤ xs.length ∧ i = .int .i64 k ∧ so = .string S ∧ S.data.toList = cat (xs.take k) ∧ HS B1 wr (cat (xs.take k)) ∧ HS B2 wr (cat (xs.take k)) ∧ Below w.heap.size w wr) (fun _ i _ => xs.length - (intOf i).toNat)
  case atStart => exact ⟨0, ⟨#[]⟩, Nat.zero_le _, rfl, rfl, rfl, H1.out, H2.out, HB3.out⟩
  case round =>
    clear H1 H2 HB3
    obtain ⟨k, S, hk, rfl, rfl, hSd, hA, hQ, hnx⟩ := hrel
    have hcl := cat_take_le xs k
    have hSs : S.size = (cat (xs.take k)).length := by rw [← hSd, size_data]
    by_cases hlt : k < xs.length
    · obtain rfl := hao (by omega)
      have hb' := hb (by omega)
      have hcell := HL.out k _ (List.getElem?_eq_getElem hlt)
      have hS' := cat_snoc xs k hlt
      have hcl' := cat_take_le xs (k + 1)
      have hTk : ∀ {w' : World}, Below w.heap.size w w' → Tabs w' := fun h => HT.out.below h
      generalize hX : xs[k] = X at *
      have hXs : X.size ≤ 1048576 := by rw [hS', List.length_append, size_data] at hcl'; omega
      have hSX : (S ++ X : ByteArray).data.toList = cat (xs.take (k + 1)) := by rw [ByteArray.data_append, Array.toList_append, hSd, hS']
      have hSXs : (S ++ X : ByteArray).size = (cat (xs.take (k + 1))).length := by rw [← size_data, hSX]
      have hSXl : (S ++ X : ByteArray).size ≤ 9223372036854775807 := by rw [hSXs]; omega
      have hc0 := (hnx.cell (p := ⟨b, off + k, none⟩) hb').trans hcell
      have T0 := hTk hnx
      have W1 : Hid (Calls Tryd.prog 18 #[.pointer (some ⟨B1, 0, none⟩), .string X] wr fun e w' => e = .returned (.int .i64 0) ∧ HS B1 w' (cat (xs.take (k + 1))) ∧ wr.grownBy w' (some B1)) := by
        rw [hS']
        exact hwrite_any B1 wr _ X hA T0.four (by omega) (by omega)
      have W2 : Hid (∀ w', HS B2 w' (cat (xs.take k)) → Tab4 0 w' → Calls Tryd.prog 18 #[.pointer (some ⟨B2, 0, none⟩), .string X] w' fun e w'' => e = .returned (.int .i64 0) ∧ HS B2 w'' (cat (xs.take (k + 1))) ∧ w'.grownBy w'' (some B2)) := fun w' h1 h2 => by
        rw [hS']
        exact hwrite_any B2 w' _ X h1 h2 (by omega) (by omega)
      have HSX := hide hSX
      have HNX := hide hnx
      have HQ := hide hQ
      have HC := hide hcell
      have HSXS := hide hSXs
      clear hS' hSX hA hQ hnx T0 hX hcell
      generalize hTT : cat (xs.take (k + 1)) = TT at *
      go_wp2_with fail
      refine Calls.mono W1.out ?_
      rintro e w4 ⟨rfl, hA4, hg4⟩
      have hQ4 := HQ.out.grown hg4 (Ne.symm hne) h31
      have hN4 : Below w.heap.size w w4 := HNX.out.grown hg4 HNX.out.size (fun j hj => by cases hj; omega)
      have hc4 := (hN4.cell (p := ⟨b, off + k, none⟩) hb').trans HC.out
      have A4 := hide hA4
      have N4 := hide hN4
      have Q4' := hide hQ4
      clear hA4 hg4 hQ4 hN4 hc0
      go_wp2_with fail
      refine Calls.mono (W2.out _ Q4'.out (hTk N4.out).four) ?_
      rintro e w5 ⟨rfl, hQ5, hg5⟩
      have hA5 := A4.out.grown hg5 hne h32
      have hN5 : Below w.heap.size w w5 := N4.out.grown hg5 N4.out.size (fun j hj => by cases hj; omega)
      have hc5 := (hN5.cell (p := ⟨b, off + k, none⟩) hb').trans HC.out
      have A5 := hide hA5
      have N5 := hide hN5
      have Q5 := hide hQ5
      have CN : Hid (Calls Tryd.prog 19 #[.pointer (some ⟨B1, 0, none⟩)] w5 fun e w' => e = .returned (.int .i64 ((S ++ X : ByteArray).size : Int)) ∧ w5 = w') := by rw [hSXs]; exact hcount_any B1 w5 TT hA5
      clear hA5 hg5 hQ5 hN5 hc4 hSXs
      go_wp2_with (first | (go_at_call 16; refine Calls.mono (num_any _ _) ?_; rintro e wx ⟨rfl, rfl⟩) | (go_at_call 19; refine Calls.mono CN.out ?_; rintro e wx ⟨rfl, rfl⟩))
      generalize (S ++ X : ByteArray) = SX at *
      have MD : Hid (∀ w', HS B1 w' TT → Calls Tryd.prog 20 #[.pointer (some ⟨B1, 0, none⟩)] w' fun e w'' => e = .returned (.string (strOf (md5L TT))) ∧ Below w'.heap.size w' w'') := fun w' h => hmd5_any B1 w' TT h (by omega)
      have CC : Hid (∀ w', HS B1 w' TT → Calls Tryd.prog 21 #[.pointer (some ⟨B1, 0, none⟩)] w' fun e w'' => e = .returned (.int .i64 (crcN 0 TT : Int)) ∧ w' = w'') := fun w' h => hcrc_any B1 w' TT h
      have hcat1 : cat [SX] = TT := by rw [← HSX.out]; simp [cat]
      have MS : Hid (∀ w', Tabs w' → Calls Tryd.prog 11 #[.slice (some ⟨w'.heap.size, 0, none⟩) 1 1] (w'.alloc (.cells #[.string SX] 9)) fun e w'' => e = .returned (.string (strOf (md5L TT))) ∧ Below (w'.alloc (.cells #[.string SX] 9)).heap.size (w'.alloc (.cells #[.string SX] 9)) w'') := fun w' h => by
        have := md5_new w' [SX] 9 h (by simp) (by rw [hcat1]; omega) 1 rfl
        rw [hcat1] at this
        exact this
      have CS : Hid (∀ w', Tabs w' → Calls Tryd.prog 14 #[.slice (some ⟨w'.heap.size, 0, none⟩) 1 1] (w'.alloc (.cells #[.string SX] 9)) fun e w'' => e = .returned (.int .i64 (crcN 0 TT : Int)) ∧ (w'.alloc (.cells #[.string SX] 9)) = w'') := fun w' h => by
        have := crc_new w' [SX] 9 h (by simp) (fun x hx => by simp at hx; subst hx; rw [HSXS.out]; omega) 1 rfl
        rw [hcat1] at this
        exact this
      clear hcat1
      go_wp2_with fail
      refine Calls.mono (MD.out _ A5.out) ?_
      rintro e w6 ⟨rfl, hb6⟩
      have N6 := hide (N5.out.trans (hb6.mono N5.out.size))
      have A6 := hide (A5.out.below hb6)
      have Q6 := hide (Q5.out.below hb6)
      clear hb6
      obtain ⟨M5, hM5⟩ : ∃ M5, M5 = strOf (md5L TT) := ⟨_, rfl⟩
      rw [← hM5]
      rw [← hM5] at MS
      clear hM5 MD
      go_wp2_with fail
      refine Calls.mono (MS.out _ (hTk N6.out)) ?_
      rintro e w7 ⟨rfl, hb7⟩
      have hb7' : Below w6.heap.size w6 w7 := ((Below.refl _ w6).alloc (Nat.le_refl _) _).trans (hb7.mono (by simp))
      have N7 := hide (N6.out.trans (hb7'.mono N6.out.size))
      have A7 := hide (A6.out.below hb7')
      have Q7 := hide (Q6.out.below hb7')
      clear hb7 hb7'
      go_wp2_with fail
      refine Calls.mono (CC.out _ A7.out) ?_
      rintro e wx ⟨rfl, rfl⟩
      generalize crcN 0 TT = CV at *
      go_wp2_with (go_at_call 14; refine Calls.mono (CS.out _ (hTk N7.out)) ?_; rintro e wx ⟨rfl, rfl⟩)
      have hb8 : Below w7.heap.size w7 (w7.alloc (.cells #[.string SX] 9)) := (Below.refl _ w7).alloc (Nat.le_refl _) _
      go_roundw
      case rel => exact ⟨k + 1, SX, by omega, by go_num, rfl, by rw [HSX.out, hTT], by rw [hTT]; exact A7.out.below hb8, by rw [hTT]; exact Q7.out.below hb8, N7.out.trans (hb8.mono N7.out.size)⟩
      case measure => simp [intOf]; omega
    · obtain rfl : k = xs.length := by omega
      rw [List.take_of_length_le (Nat.le_refl _)] at hSd hA hQ hSs
      have hTk : ∀ {w' : World}, Below w.heap.size w w' → Tabs w' := fun h => HT.out.below h
      have hcat1 : cat [S] = cat xs := by rw [← hSd]; simp [cat]
      have TW : Hid (Calls Tryd.prog 22 #[.slice ao xs.length cap] wr fun e w' => ∃ v, e = .returned v ∧ SL wr.heap.size w' v xs ∧ Below wr.heap.size wr w') :=
        twin_any ao b off cap xs wr hao (fun h => Nat.lt_of_lt_of_le (hb h) hnx.size) (fun j x hx => by
          have h0 : 0 < xs.length := Nat.lt_of_le_of_lt (Nat.zero_le _) (List.getElem?_eq_some_iff.1 hx).1
          exact (hnx.cell (p := ⟨b, off + j, none⟩) (hb h0)).trans (HL.out j x hx)) hlen
      have MS : Hid (∀ w', Tabs w' → Calls Tryd.prog 11 #[.slice (some ⟨w'.heap.size, 0, none⟩) 1 1] (w'.alloc (.cells #[.string S] 9)) fun e w'' => e = .returned (.string (strOf (md5L (cat xs)))) ∧ Below (w'.alloc (.cells #[.string S] 9)).heap.size (w'.alloc (.cells #[.string S] 9)) w'') := fun w' h => by
        have := md5_new w' [S] 9 h (by simp) (by rw [hcat1]; omega) 1 rfl
        rw [hcat1] at this
        exact this
      have CS : Hid (∀ w', Tabs w' → Calls Tryd.prog 14 #[.slice (some ⟨w'.heap.size, 0, none⟩) 1 1] (w'.alloc (.cells #[.string S] 9)) fun e w'' => e = .returned (.int .i64 (crcN 0 (cat xs) : Int)) ∧ (w'.alloc (.cells #[.string S] 9)) = w'') := fun w' h => by
        have := crc_new w' [S] 9 h (by simp) (fun x hx => by simp at hx; subst hx; omega) 1 rfl
        rw [hcat1] at this
        exact this
      have ML : Hid (∀ lo w' v, SL lo w' v xs → Tabs w' → Calls Tryd.prog 11 #[v] w' fun e w'' => e = .returned (.string (strOf (md5L (cat xs)))) ∧ Below w'.heap.size w' w'') := fun lo w' v h1 h2 => md5_sl h1 h2 (by omega) (by omega)
      have CLL : Hid (∀ lo w' v, SL lo w' v xs → Tabs w' → Calls Tryd.prog 14 #[v] w' fun e w'' => e = .returned (.int .i64 (crcN 0 (cat xs) : Int)) ∧ w' = w'') := fun lo w' v h1 h2 => crc_sl h1 h2 (by omega) (by omega)
      have MH : Hid (∀ B w', HS B w' (cat xs) → Calls Tryd.prog 20 #[.pointer (some ⟨B, 0, none⟩)] w' fun e w'' => e = .returned (.string (strOf (md5L (cat xs)))) ∧ Below w'.heap.size w' w'') := fun B w' h => hmd5_any B w' _ h (by omega)
      have CH : Hid (∀ B w', HS B w' (cat xs) → Calls Tryd.prog 21 #[.pointer (some ⟨B, 0, none⟩)] w' fun e w'' => e = .returned (.int .i64 (crcN 0 (cat xs) : Int)) ∧ w' = w'') := fun B w' h => hcrc_any B w' _ h
      have NH : Hid (∀ B w', HS B w' (cat xs) → Calls Tryd.prog 19 #[.pointer (some ⟨B, 0, none⟩)] w' fun e w'' => e = .returned (.int .i64 (S.size : Int)) ∧ w' = w'') := fun B w' h => by rw [hSs]; exact hcount_any B w' _ h
      obtain ⟨M5, hM5⟩ : ∃ M5, M5 = strOf (md5L (cat xs)) := ⟨_, rfl⟩
      have hM16 : M5.size = 16 := by rw [hM5, strOf_size, md5L_len]
      rw [← hM5] at MS ML MH
      have A0 := hide hA
      have Q0' := hide hQ
      have N0 := hide hnx
      clear hM5 hcat1 hA hQ hnx hSs hSd
      generalize crcN 0 (cat xs) = CV at *
      go_wp2_with fail
      refine Calls.mono TW.out ?_
      rintro e w4 ⟨V, rfl, hV, hb4⟩
      have N4 := hide (N0.out.trans (hb4.mono N0.out.size))
      have A4 := hide (A0.out.below hb4)
      have Q4' := hide (Q0'.out.below hb4)
      have V4 := hide hV
      clear hV hb4 TW
      go_wp2_with fail
      refine Calls.mono (MS.out _ (hTk N4.out)) ?_
      rintro e w5 ⟨rfl, hb5⟩
      have hb5' : Below w4.heap.size w4 w5 := ((Below.refl _ w4).alloc (Nat.le_refl _) _).trans (hb5.mono (by simp))
      have N5 := hide (N4.out.trans (hb5'.mono N4.out.size))
      have A5 := hide (A4.out.below hb5')
      have Q5 := hide (Q4'.out.below hb5')
      have V5 := hide (V4.out.below hb5')
      clear hb5 hb5' N4 A4 Q4' V4
      go_wp2_with fail
      refine Calls.mono (CS.out _ (hTk N5.out)) ?_
      rintro e w6 ⟨rfl, h6⟩
      have hb6 : Below w5.heap.size w5 w6 := by rw [← h6]; exact (Below.refl _ w5).alloc (Nat.le_refl _) _
      have N6 := hide (N5.out.trans (hb6.mono N5.out.size))
      have A6 := hide (A5.out.below hb6)
      have Q6 := hide (Q5.out.below hb6)
      have V6 := hide (V5.out.below hb6)
      clear hb6 h6 N5 A5 Q5 V5
      go_wp2_with fail
      refine Calls.mono (ML.out _ _ _ V6.out (hTk N6.out)) ?_
      rintro e w7 ⟨rfl, hb7⟩
      have N7 := hide (N6.out.trans (hb7.mono N6.out.size))
      have A7 := hide (A6.out.below hb7)
      have Q7 := hide (Q6.out.below hb7)
      have V7 := hide (V6.out.below hb7)
      clear hb7 N6 A6 Q6 V6
      go_wp2_with fail
      refine Calls.mono (CLL.out _ _ _ V7.out (hTk N7.out)) ?_
      rintro e wx ⟨rfl, rfl⟩
      go_wp2_with fail
      refine Calls.mono (MH.out _ _ Q7.out) ?_
      rintro e w8 ⟨rfl, hb8⟩
      have N8 := hide (N7.out.trans (hb8.mono N7.out.size))
      have A8 := hide (A7.out.below hb8)
      have Q8 := hide (Q7.out.below hb8)
      clear hb8 N7 A7 Q7 V7
      go_wp2_with (first | (go_at_call 21; refine Calls.mono (CH.out _ _ Q8.out) ?_; rintro e wx ⟨rfl, rfl⟩) | (go_at_call 19; refine Calls.mono (NH.out _ _ Q8.out) ?_; rintro e wx ⟨rfl, rfl⟩))
      refine Calls.mono (MH.out _ _ A8.out) ?_
      rintro e w9 ⟨rfl, hb9⟩
      go_wp2
      go_ret
      exact ⟨rfl, N8.out.trans (hb9.mono N8.out.size)⟩
end Go.Proofs.YtfcghfllhcjmnaaDoor
