import Derived.Test.YtfpalfpfijcpbaaGreatDoorGPyFwd
import Derived.Test.YtfpalfpfijcpbaaGreatDoorGPyExt
import Derived.Test.YtfpalfpfijcpbaaGreatDoorGPmFwd
namespace Go.Proofs.YtfpalfpfijcpbaaGreatDoor
open Go.RowKit Go.Shelf
theorem nsz_line {tx : ByteArray} {q : Nat} (hq : q ≤ tx.size) (h : nsz tx q ≠ 0) : ∃ n : NV, nOk n ∧ (nS n).data.toList <+: tx.data.toList.drop q := by
  obtain ⟨f0, _⟩ := same_at tx q hq
  have hr : rtOk tx q = true := by
    cases hr : rtOk tx q with
    | true => rfl
    | false => exfalso; apply h; rw [← f0]; unfold rtSize; rw [hr]; rfl
  unfold rtOk at hr
  simp only [Bool.and_eq_true] at hr
  exact ⟨(ntC tx q, ntP tx q, ntU tx q, ntX tx q), hr.2.1, List.isPrefixOf_iff_prefix.1 hr.2.2⟩
/-- of a journal with one byte turned into another just the lines ahead of that byte's line are read -/
theorem spoilt_notes {ns : List NV} (hg : ∀ n ∈ ns, nOk n) {k : Nat} (hk : k < ns.length) {j : Nat} (hj : j < (nS ns[k]).size) {b : UInt8} (hb : (jl ns)[(jl (ns.take k)).length + j]? ≠ some b) {tx : ByteArray} {Y : List UInt8} (h : tx.data.toList = (jl ns).set ((jl (ns.take k)).length + j) b ++ Y) :
    notesAt tx k = some (ns.take k, (jl (ns.take k)).length) ∧ nsz tx (jl (ns.take k)).length = 0 := by
  have hsp : jl ns = jl (ns.take k) ++ ((nS ns[k]).data.toList ++ jl (ns.drop (k + 1))) := by
    rw [jl_split ns (k + 1), jl_take ns k hk, List.append_assoc]
  have hjd : j < (nS ns[k]).data.toList.length := by rw [size_data]; exact hj
  have hset : (jl ns).set ((jl (ns.take k)).length + j) b = jl (ns.take k) ++ ((nS ns[k]).data.toList.set j b ++ jl (ns.drop (k + 1))) := by
    conv => lhs; rw [hsp]
    rw [List.set_append_right _ _ (by omega), Nat.add_sub_cancel_left, List.set_append_left _ _ hjd]
  have hgt : ∀ n ∈ ns.take k, nOk n := fun n hn => hg n (List.mem_of_mem_take hn)
  have h1 : tx.data.toList = jl (ns.take k) ++ ((nS ns[k]).data.toList.set j b ++ (jl (ns.drop (k + 1)) ++ Y)) := by rw [h, hset]; simp only [List.append_assoc]
  have n1 := notes_of hgt h1 (ns.take k).length (Nat.le_refl _)
  rw [List.take_length, List.length_take, Nat.min_eq_left (by omega)] at n1
  refine ⟨n1, ?_⟩
  rcases Nat.eq_zero_or_pos (nsz tx (jl (ns.take k)).length) with hz | hz
  · exact hz
  · exfalso
    have hle : (jl (ns.take k)).length ≤ tx.size := by rw [← size_data, h1, List.length_append]; omega
    obtain ⟨n, hn, hp⟩ := nsz_line hle (by omega)
    rw [h1, List.drop_left] at hp
    obtain ⟨u, hu⟩ := line_of (hg _ (List.getElem_mem hk))
    obtain ⟨u', hu'⟩ := line_of hn
    refine spoil hu hu' hjd ?_ hp
    rw [hsp, List.getElem?_append_right (by omega), Nat.add_sub_cancel_left, List.getElem?_append_left hjd] at hb
    exact hb
end Go.Proofs.YtfpalfpfijcpbaaGreatDoor
namespace Go.Proofs.YtfpalfpfijcpbaaGreatDoor
open Go.RowKit Go.Shelf
set_option maxHeartbeats 1000000 in
set_option maxRecDepth 100000 in
theorem lin_any (n lo hi : Int) (w : World) :
    Calls Tryz.prog 33 #[.int .i64 n, .int .i64 lo, .int .i64 hi] w fun e w' => e = .returned (.bool (inR n lo hi)) ∧ w = w' := by
  obtain ⟨B, hB⟩ : ∃ B, B = inR n lo hi := ⟨_, rfl⟩
  rw [← hB]
  unfold inR at hB
  have HB := hide hB
  clear hB
  by_cases h : lo ≤ n
  · go_enter Tryz.func33, Tryz.ntmps33
    go_wp2
    go_ret
    refine ⟨ret_bool ?_, rfl⟩
    rw [HB.out, decide_eq_true h]; rfl
  · go_enter Tryz.func33, Tryz.ntmps33
    go_wp2
    go_ret
    refine ⟨ret_bool ?_, rfl⟩
    rw [HB.out, decide_eq_false (by omega)]; rfl
set_option maxHeartbeats 2000000 in
set_option maxRecDepth 100000 in
theorem goodNote_any (c p e s : Int) (w : World) :
    Calls Tryz.prog 16 #[.agg #[.int .i64 c, .int .i64 p, .int .i64 e, .int .i64 s]] w fun x w' => x = .returned (.bool (noteOk c p e s)) ∧ Below w.heap.size w w' := by
  have hb : Hid (Below w.heap.size w (w.alloc (.cells #[.int .i64 c, .int .i64 p, .int .i64 e, .int .i64 s] 27))) := (Below.refl _ _).alloc (Nat.le_refl _) _
  obtain ⟨B, hB⟩ : ∃ B, B = noteOk c p e s := ⟨_, rfl⟩
  rw [← hB]
  unfold noteOk at hB
  have HB := hide hB
  clear hB
  cases h1 : inR c 1 4 with
  | false =>
    go_enter Tryz.func16, Tryz.ntmps16
    go_wp2_with (go_at_call 33; refine Calls.mono (lin_any _ _ _ _) ?_; rintro e w' ⟨rfl, rfl⟩)
    go_ret
    exact ⟨ret_bool (by rw [HB.out, h1]; rfl), hb.out⟩
  | true =>
    cases h2 : inR p 0 9007199254740992 with
    | false =>
      go_enter Tryz.func16, Tryz.ntmps16
      go_wp2_with (go_at_call 33; refine Calls.mono (lin_any _ _ _ _) ?_; rintro e w' ⟨rfl, rfl⟩)
      go_ret
      exact ⟨ret_bool (by rw [HB.out, h1, h2]; rfl), hb.out⟩
    | true =>
      cases h3 : inR e 0 9007199254740992 with
      | false =>
        go_enter Tryz.func16, Tryz.ntmps16
        go_wp2_with (go_at_call 33; refine Calls.mono (lin_any _ _ _ _) ?_; rintro e w' ⟨rfl, rfl⟩)
        go_ret
        exact ⟨ret_bool (by rw [HB.out, h1, h2, h3]; rfl), hb.out⟩
      | true =>
        cases h4 : inR s 0 4294967295 with
        | false =>
          go_enter Tryz.func16, Tryz.ntmps16
          go_wp2_with (go_at_call 33; refine Calls.mono (lin_any _ _ _ _) ?_; rintro e w' ⟨rfl, rfl⟩)
          go_ret
          exact ⟨ret_bool (by rw [HB.out, h1, h2, h3, h4]; rfl), hb.out⟩
        | true =>
          go_enter Tryz.func16, Tryz.ntmps16
          go_wp2_with (go_at_call 33; refine Calls.mono (lin_any _ _ _ _) ?_; rintro e w' ⟨rfl, rfl⟩)
          go_ret
          exact ⟨ret_bool (by rw [HB.out, h1, h2, h3, h4]; rfl), hb.out⟩
end Go.Proofs.YtfpalfpfijcpbaaGreatDoor
namespace Go.Proofs.YtfpalfpfijcpbaaGreatDoor
open Go.RowKit Go.Shelf
def isLow (c : UInt8) : Bool := decide (97 ≤ c.toNat) && decide (c.toNat ≤ 122)
def lettersB (t : ByteArray) : Bool := decide (1 ≤ t.size) && decide (t.size ≤ 40) && t.data.toList.all isLow
theorem low_snoc (t : ByteArray) (k : Nat) (h : k < t.size) : (t.data.toList.take (k + 1)).all isLow = ((t.data.toList.take k).all isLow && isLow t[k]) := by
  rw [List.take_succ_eq_append_getElem (by simpa using h), List.all_append]
  simp
  rfl
theorem low_false (t : ByteArray) (k : Nat) (h : k < t.size) (hc : isLow t[k] = false) : t.data.toList.all isLow = false := by
  rw [List.all_eq_false]
  exact ⟨t[k], by have : t[k] = t.data.toList[k]'(by simpa using h) := rfl; rw [this]; exact List.getElem_mem _, by rw [hc]; simp⟩
set_option maxHeartbeats 1000000 in
set_option maxRecDepth 100000 in
theorem letters_any (t : ByteArray) (w : World) (hs : t.size ≤ 9223372036854775807) :
    Calls Tryz.prog 32 #[.string t] w fun e w' => e = .returned (.bool (lettersB t)) ∧ w = w' := by
  obtain ⟨E, hE⟩ : ∃ E, E = lettersB t := ⟨_, rfl⟩
  rw [← hE]
  unfold lettersB at hE
  have HE := hide hE
  clear hE
  by_cases h1 : t.size = 0
  · go_enter Tryz.func32, Tryz.ntmps32
    go_wp2_with fail
    go_ret
    exact ⟨ret_bool (by rw [HE.out, decide_eq_false (by omega)]; rfl), rfl⟩
  · by_cases h2 : 40 < t.size
    · have h1' : ¬ (t.size : Int) < 1 := by omega
      have h2' : (40 : Int) < (t.size : Int) := by omega
      go_enter Tryz.func32, Tryz.ntmps32
      go_wp2_with fail
      go_ret
      exact ⟨ret_bool (by rw [HE.out, decide_eq_false (p := t.size ≤ 40) (by omega)]; simp), rfl⟩
    · have h1' : ¬ (t.size : Int) < 1 := by omega
      have h2' : ¬ (40 : Int) < (t.size : Int) := by omega
      have HE2 : Hid (E = t.data.toList.all isLow) := by show _ = _; rw [HE.out, decide_eq_true (by omega), decide_eq_true (by omega)]; rfl
      clear HE
      go_enter Tryz.func32, Tryz.ntmps32
      go_wp2_with fail
      go_loop [3] (fun v => ∃ k : Nat, k ≤ t.size ∧ v = .int .i64 k ∧ Hid ((t.data.toList.take k).all isLow = true)) (fun v => t.size - (intOf v).toNat)
      case atStart => exact ⟨0, Nat.zero_le _, rfl, rfl⟩
      case round =>
        obtain ⟨k, hk, rfl, hA⟩ := hrel
        by_cases hlt : k < t.size
        · have hxs : ∀ w', (Instr.index 9 (.string t) (.int .i64 (k : Int))).run Tryz.prog w' = .ok (.int .u8 (t[k].toNat : Int)) w' := fun w' => ix_str w' t k hlt
          have HS := hide (low_snoc t k hlt)
          have HF := hide (low_false t k hlt)
          generalize t[k] = c at *
          have hlt' : (k : Int) < (t.size : Int) := by omega
          by_cases ha : c.toNat < 97
          · have ha' : (c.toNat : Int) < 97 := by omega
            go_wp2_with fail
            go_ret
            exact ⟨ret_bool (by rw [HE2.out, HF.out (by unfold isLow; rw [decide_eq_false (by omega)]; rfl)]), rfl⟩
          · have ha' : ¬ (c.toNat : Int) < 97 := by omega
            by_cases hz : 122 < c.toNat
            · have hz' : (122 : Int) < (c.toNat : Int) := by omega
              go_wp2_with fail
              go_ret
              exact ⟨ret_bool (by rw [HE2.out, HF.out (by unfold isLow; rw [decide_eq_false (p := c.toNat ≤ 122) (by omega)]; simp)]), rfl⟩
            · have hz' : ¬ (122 : Int) < (c.toNat : Int) := by omega
              go_wp2_with fail
              go_round
              case rel => exact ⟨k + 1, by omega, by go_num, by rw [HS.out, hA.out]; unfold isLow; rw [decide_eq_true (by omega), decide_eq_true (by omega)]; rfl⟩
              case measure => simp [intOf]; omega
        · obtain rfl : k = t.size := by omega
          have hA' := hA.out
          rw [List.take_of_length_le (by simp)] at hA'
          have HA := hide hA'
          clear hA' hA
          go_wp2_with fail
          go_ret
          exact ⟨ret_bool (by rw [HE2.out, HA.out]), rfl⟩
def gmOk (st : ByteArray) (n : Nat → Int) : Bool := lettersB st && inR (n 1) 1 999999 && inR (n 2) 0 15 && inR (n 3) 1 64 && inR (n 4) 1 16 && inR (n 5) 1 16 && inR (n 6) 1 16 && inR (n 7) 0 9007199254740992
theorem low_lt : ∀ n : Fin 256, isLow (UInt8.ofNat n.1) = true → ltL.data.toList.contains (UInt8.ofNat n.1) = true ∧ stL.data.toList.contains (UInt8.ofNat n.1) = true := by decide +kernel
theorem low_in {c : UInt8} (h : isLow c = true) : ltL.data.toList.contains c = true ∧ stL.data.toList.contains c = true := by
  have := low_lt ⟨c.toNat, c.toNat_lt⟩
  simp only [UInt8.ofNat_toNat] at this
  exact this h
theorem letters_st {t : ByteArray} (h : lettersB t = true) : stOk t 1 40 = true := by
  unfold lettersB at h
  simp only [Bool.and_eq_true, decide_eq_true_eq] at h
  obtain ⟨⟨h1, h2⟩, h3⟩ := h
  have ha := List.all_eq_true.1 h3
  unfold stOk inR isSt allOf
  have e0 : t.data.toList.isEmpty = false := by
    cases hd : t.data.toList with
    | nil => rw [← size_data, hd] at h1; simp at h1
    | cons a b => rfl
  have e1 : (t.data.toList.take 1).all (fun c => ltL.data.toList.contains c) = true := List.all_eq_true.2 fun c hc => (low_in (ha c (List.mem_of_mem_take hc))).1
  have e2 : t.data.toList.all (fun c => stL.data.toList.contains c) = true := List.all_eq_true.2 fun c hc => (low_in (ha c hc)).2
  rw [e0, e1, e2, decide_eq_true (by omega), decide_eq_true (by omega)]
  rfl
theorem gm_meta {st : ByteArray} {n : Nat → Int} (h : gmOk st n = true) : metaOk st n = true := by
  unfold gmOk at h
  unfold metaOk
  simp only [Bool.and_eq_true] at h ⊢
  obtain ⟨⟨⟨⟨⟨⟨⟨h0, h1⟩, h2⟩, h3⟩, h4⟩, h5⟩, h6⟩, h7⟩ := h
  exact ⟨⟨⟨⟨⟨⟨⟨letters_st h0, h1⟩, h2⟩, h3⟩, h4⟩, h5⟩, h6⟩, h7⟩
end Go.Proofs.YtfpalfpfijcpbaaGreatDoor
namespace Go.Proofs.YtfpalfpfijcpbaaGreatDoor
open Go.RowKit Go.Shelf
set_option maxHeartbeats 4000000 in
set_option maxRecDepth 100000 in
theorem goodPointer_any (c p e s : Int) (w : World) :
    Calls Tryz.prog 13 #[.agg #[.int .i64 c, .int .i64 p, .int .i64 e, .int .i64 s]] w fun x w' => x = .returned (.bool (ptrOk c p e s)) ∧ Below w.heap.size w w' := by
  have hb : Hid (Below w.heap.size w (w.alloc (.cells #[.int .i64 c, .int .i64 p, .int .i64 e, .int .i64 s] 25))) := (Below.refl _ _).alloc (Nat.le_refl _) _
  obtain ⟨B, hB⟩ : ∃ B, B = ptrOk c p e s := ⟨_, rfl⟩
  rw [← hB]
  unfold ptrOk at hB
  have HB := hide hB
  clear hB
  cases h0 : inR c 0 999999 with
  | false =>
    go_enter Tryz.func13, Tryz.ntmps13
    go_wp2_with ((go_at_call 33; refine Calls.mono (lin_any _ _ _ _) ?_; rintro e w' ⟨rfl, rfl⟩))
    go_ret
    exact ⟨ret_bool (by rw [HB.out, h0]; rfl), hb.out⟩
  | true =>
    cases h1 : inR p 0 999999 with
    | false =>
      go_enter Tryz.func13, Tryz.ntmps13
      go_wp2_with ((go_at_call 33; refine Calls.mono (lin_any _ _ _ _) ?_; rintro e w' ⟨rfl, rfl⟩))
      go_ret
      exact ⟨ret_bool (by rw [HB.out, h0, h1]; rfl), hb.out⟩
    | true =>
      cases h2 : inR e 0 9007199254740992 with
      | false =>
        go_enter Tryz.func13, Tryz.ntmps13
        go_wp2_with ((go_at_call 33; refine Calls.mono (lin_any _ _ _ _) ?_; rintro e w' ⟨rfl, rfl⟩))
        go_ret
        exact ⟨ret_bool (by rw [HB.out, h0, h1, h2]; rfl), hb.out⟩
      | true =>
        cases h3 : inR s 0 9007199254740992 with
        | false =>
          go_enter Tryz.func13, Tryz.ntmps13
          go_wp2_with ((go_at_call 33; refine Calls.mono (lin_any _ _ _ _) ?_; rintro e w' ⟨rfl, rfl⟩))
          go_ret
          exact ⟨ret_bool (by rw [HB.out, h0, h1, h2, h3]; rfl), hb.out⟩
        | true =>
          go_enter Tryz.func13, Tryz.ntmps13
          go_wp2_with ((go_at_call 33; refine Calls.mono (lin_any _ _ _ _) ?_; rintro e w' ⟨rfl, rfl⟩))
          go_ret
          exact ⟨ret_bool (by rw [HB.out, h0, h1, h2, h3]; rfl), hb.out⟩
end Go.Proofs.YtfpalfpfijcpbaaGreatDoor
namespace Go.Proofs.YtfpalfpfijcpbaaGreatDoor
open Go.RowKit Go.Shelf
set_option maxHeartbeats 4000000 in
set_option maxRecDepth 100000 in
theorem goodMeta_any (st : ByteArray) (n1 n2 n3 n4 n5 n6 n7 : Int) (w : World) (hst : st.size ≤ 9223372036854775807) :
    Calls Tryz.prog 9 #[.agg #[.string st, .int .i64 n1, .int .i64 n2, .int .i64 n3, .int .i64 n4, .int .i64 n5, .int .i64 n6, .int .i64 n7]] w fun x w' => x = .returned (.bool (lettersB st && inR n1 1 999999 && inR n2 0 15 && inR n3 1 64 && inR n4 1 16 && inR n5 1 16 && inR n6 1 16 && inR n7 0 9007199254740992)) ∧ Below w.heap.size w w' := by
  have hb : Hid (Below w.heap.size w (w.alloc (.cells #[.string st, .int .i64 n1, .int .i64 n2, .int .i64 n3, .int .i64 n4, .int .i64 n5, .int .i64 n6, .int .i64 n7] 23))) := (Below.refl _ _).alloc (Nat.le_refl _) _
  have L := hide (fun w' => letters_any st w' hst)
  obtain ⟨B, hB⟩ : ∃ B, B = (lettersB st && inR n1 1 999999 && inR n2 0 15 && inR n3 1 64 && inR n4 1 16 && inR n5 1 16 && inR n6 1 16 && inR n7 0 9007199254740992) := ⟨_, rfl⟩
  rw [← hB]
  have HB := hide hB
  clear hB
  generalize lettersB st = b0 at *
  cases b0 with
  | false =>
    go_enter Tryz.func9, Tryz.ntmps9
    go_wp2_with (first | (go_at_call 32; refine Calls.mono (L.out _) ?_; rintro e w' ⟨rfl, rfl⟩) | (go_at_call 33; refine Calls.mono (lin_any _ _ _ _) ?_; rintro e w' ⟨rfl, rfl⟩))
    go_ret
    exact ⟨ret_bool (by rw [HB.out]; rfl), hb.out⟩
  | true =>
    cases h1 : inR n1 1 999999 with
    | false =>
      go_enter Tryz.func9, Tryz.ntmps9
      go_wp2_with (first | (go_at_call 32; refine Calls.mono (L.out _) ?_; rintro e w' ⟨rfl, rfl⟩) | (go_at_call 33; refine Calls.mono (lin_any _ _ _ _) ?_; rintro e w' ⟨rfl, rfl⟩))
      go_ret
      exact ⟨ret_bool (by rw [HB.out, h1]; rfl), hb.out⟩
    | true =>
      cases h2 : inR n2 0 15 with
      | false =>
        go_enter Tryz.func9, Tryz.ntmps9
        go_wp2_with (first | (go_at_call 32; refine Calls.mono (L.out _) ?_; rintro e w' ⟨rfl, rfl⟩) | (go_at_call 33; refine Calls.mono (lin_any _ _ _ _) ?_; rintro e w' ⟨rfl, rfl⟩))
        go_ret
        exact ⟨ret_bool (by rw [HB.out, h1, h2]; rfl), hb.out⟩
      | true =>
        cases h3 : inR n3 1 64 with
        | false =>
          go_enter Tryz.func9, Tryz.ntmps9
          go_wp2_with (first | (go_at_call 32; refine Calls.mono (L.out _) ?_; rintro e w' ⟨rfl, rfl⟩) | (go_at_call 33; refine Calls.mono (lin_any _ _ _ _) ?_; rintro e w' ⟨rfl, rfl⟩))
          go_ret
          exact ⟨ret_bool (by rw [HB.out, h1, h2, h3]; rfl), hb.out⟩
        | true =>
          cases h4 : inR n4 1 16 with
          | false =>
            go_enter Tryz.func9, Tryz.ntmps9
            go_wp2_with (first | (go_at_call 32; refine Calls.mono (L.out _) ?_; rintro e w' ⟨rfl, rfl⟩) | (go_at_call 33; refine Calls.mono (lin_any _ _ _ _) ?_; rintro e w' ⟨rfl, rfl⟩))
            go_ret
            exact ⟨ret_bool (by rw [HB.out, h1, h2, h3, h4]; rfl), hb.out⟩
          | true =>
            cases h5 : inR n5 1 16 with
            | false =>
              go_enter Tryz.func9, Tryz.ntmps9
              go_wp2_with (first | (go_at_call 32; refine Calls.mono (L.out _) ?_; rintro e w' ⟨rfl, rfl⟩) | (go_at_call 33; refine Calls.mono (lin_any _ _ _ _) ?_; rintro e w' ⟨rfl, rfl⟩))
              go_ret
              exact ⟨ret_bool (by rw [HB.out, h1, h2, h3, h4, h5]; rfl), hb.out⟩
            | true =>
              cases h6 : inR n6 1 16 with
              | false =>
                go_enter Tryz.func9, Tryz.ntmps9
                go_wp2_with (first | (go_at_call 32; refine Calls.mono (L.out _) ?_; rintro e w' ⟨rfl, rfl⟩) | (go_at_call 33; refine Calls.mono (lin_any _ _ _ _) ?_; rintro e w' ⟨rfl, rfl⟩))
                go_ret
                exact ⟨ret_bool (by rw [HB.out, h1, h2, h3, h4, h5, h6]; rfl), hb.out⟩
              | true =>
                cases h7 : inR n7 0 9007199254740992 with
                | false =>
                  go_enter Tryz.func9, Tryz.ntmps9
                  go_wp2_with (first | (go_at_call 32; refine Calls.mono (L.out _) ?_; rintro e w' ⟨rfl, rfl⟩) | (go_at_call 33; refine Calls.mono (lin_any _ _ _ _) ?_; rintro e w' ⟨rfl, rfl⟩))
                  go_ret
                  exact ⟨ret_bool (by rw [HB.out, h1, h2, h3, h4, h5, h6, h7]; rfl), hb.out⟩
                | true =>
                  go_enter Tryz.func9, Tryz.ntmps9
                  go_wp2_with (first | (go_at_call 32; refine Calls.mono (L.out _) ?_; rintro e w' ⟨rfl, rfl⟩) | (go_at_call 33; refine Calls.mono (lin_any _ _ _ _) ?_; rintro e w' ⟨rfl, rfl⟩))
                  go_ret
                  exact ⟨ret_bool (by rw [HB.out, h1, h2, h3, h4, h5, h6, h7]; rfl), hb.out⟩
end Go.Proofs.YtfpalfpfijcpbaaGreatDoor
