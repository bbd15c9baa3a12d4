import Derived.Test.YtbcpfekbnkkflaaDoorGPnBack
namespace Go.Proofs.YtbcpfekbnkkflaaDoor
open Go.RowKit Go.Shelf
theorem nsz_line {tx : ByteArray} {q : Nat} (hq : q ≤ tx.size) (h : nsz tx q ≠ 0) : ∃ n : NV, nOk n ∧ (nS n).data.toList <+: tx.data.toList.drop q := by
  obtain ⟨f0, _⟩ := same_at tx q hq
  have hr : rtOk tx q = true := by
    cases hr : rtOk tx q with
    | true => rfl
    | false => exfalso; apply h; rw [← f0]; unfold rtSize; rw [hr]; rfl
  unfold rtOk at hr
  simp only [Bool.and_eq_true] at hr
  exact ⟨(ntC tx q, ntP tx q, ntU tx q, ntX tx q), hr.2.1, List.isPrefixOf_iff_prefix.1 hr.2.2⟩
/-- of a journal with one byte turned into another just the lines ahead of that byte's line are read -/
theorem spoilt_notes {ns : List NV} (hg : ∀ n ∈ ns, nOk n) {k : Nat} (hk : k < ns.length) {j : Nat} (hj : j < (nS ns[k]).size) {b : UInt8} (hb : (jl ns)[(jl (ns.take k)).length + j]? ≠ some b) {tx : ByteArray} {Y : List UInt8} (h : tx.data.toList = (jl ns).set ((jl (ns.take k)).length + j) b ++ Y) :
    notesAt tx k = some (ns.take k, (jl (ns.take k)).length) ∧ nsz tx (jl (ns.take k)).length = 0 := by
  have hsp : jl ns = jl (ns.take k) ++ ((nS ns[k]).data.toList ++ jl (ns.drop (k + 1))) := by
    rw [jl_split ns (k + 1), jl_take ns k hk, List.append_assoc]
  have hjd : j < (nS ns[k]).data.toList.length := by rw [size_data]; exact hj
  have hset : (jl ns).set ((jl (ns.take k)).length + j) b = jl (ns.take k) ++ ((nS ns[k]).data.toList.set j b ++ jl (ns.drop (k + 1))) := by
    conv => lhs; rw [hsp]
    rw [List.set_append_right _ _ (by omega), Nat.add_sub_cancel_left, List.set_append_left _ _ hjd]
  have hgt : ∀ n ∈ ns.take k, nOk n := fun n hn => hg n (List.mem_of_mem_take hn)
  have h1 : tx.data.toList = jl (ns.take k) ++ ((nS ns[k]).data.toList.set j b ++ (jl (ns.drop (k + 1)) ++ Y)) := by rw [h, hset]; simp only [List.append_assoc]
  have n1 := notes_of hgt h1 (ns.take k).length (Nat.le_refl _)
  rw [List.take_length, List.length_take, Nat.min_eq_left (by omega)] at n1
  refine ⟨n1, ?_⟩
  rcases Nat.eq_zero_or_pos (nsz tx (jl (ns.take k)).length) with hz | hz
  · exact hz
  · exfalso
    have hle : (jl (ns.take k)).length ≤ tx.size := by rw [← size_data, h1, List.length_append]; omega
    obtain ⟨n, hn, hp⟩ := nsz_line hle (by omega)
    rw [h1, List.drop_left] at hp
    obtain ⟨u, hu⟩ := line_of (hg _ (List.getElem_mem hk))
    obtain ⟨u', hu'⟩ := line_of hn
    refine spoil hu hu' hjd ?_ hp
    rw [hsp, List.getElem?_append_right (by omega), Nat.add_sub_cancel_left, List.getElem?_append_left hjd] at hb
    exact hb
end Go.Proofs.YtbcpfekbnkkflaaDoor
namespace Go.Proofs.YtbcpfekbnkkflaaDoor
open Go.RowKit Go.Shelf
set_option maxHeartbeats 1000000 in
set_option maxRecDepth 100000 in
theorem lin_any (n lo hi : Int) (w : World) :
    Calls Tryd.prog 27 #[.int .i64 n, .int .i64 lo, .int .i64 hi] w fun e w' => e = .returned (.bool (inR n lo hi)) ∧ w = w' := by
  obtain ⟨B, hB⟩ : ∃ B, B = inR n lo hi := ⟨_, rfl⟩
  rw [← hB]
  unfold inR at hB
  have HB := hide hB
  clear hB
  by_cases h : lo ≤ n
  · go_enter Tryd.func27, Tryd.ntmps27
    go_wp2
    go_ret
    refine ⟨ret_bool ?_, rfl⟩
    rw [HB.out, decide_eq_true h]; rfl
  · go_enter Tryd.func27, Tryd.ntmps27
    go_wp2
    go_ret
    refine ⟨ret_bool ?_, rfl⟩
    rw [HB.out, decide_eq_false (by omega)]; rfl
set_option maxHeartbeats 2000000 in
set_option maxRecDepth 100000 in
theorem goodNote_any (c p e s : Int) (w : World) :
    Calls Tryd.prog 10 #[.agg #[.int .i64 c, .int .i64 p, .int .i64 e, .int .i64 s]] w fun x w' => x = .returned (.bool (noteOk c p e s)) ∧ Below w.heap.size w w' := by
  have hb : Hid (Below w.heap.size w (w.alloc (.cells #[.int .i64 c, .int .i64 p, .int .i64 e, .int .i64 s] 23))) := (Below.refl _ _).alloc (Nat.le_refl _) _
  obtain ⟨B, hB⟩ : ∃ B, B = noteOk c p e s := ⟨_, rfl⟩
  rw [← hB]
  unfold noteOk at hB
  have HB := hide hB
  clear hB
  cases h1 : inR c 1 4 with
  | false =>
    go_enter Tryd.func10, Tryd.ntmps10
    go_wp2_with (go_at_call 27; refine Calls.mono (lin_any _ _ _ _) ?_; rintro e w' ⟨rfl, rfl⟩)
    go_ret
    exact ⟨ret_bool (by rw [HB.out, h1]; rfl), hb.out⟩
  | true =>
    cases h2 : inR p 0 9007199254740992 with
    | false =>
      go_enter Tryd.func10, Tryd.ntmps10
      go_wp2_with (go_at_call 27; refine Calls.mono (lin_any _ _ _ _) ?_; rintro e w' ⟨rfl, rfl⟩)
      go_ret
      exact ⟨ret_bool (by rw [HB.out, h1, h2]; rfl), hb.out⟩
    | true =>
      cases h3 : inR e 0 9007199254740992 with
      | false =>
        go_enter Tryd.func10, Tryd.ntmps10
        go_wp2_with (go_at_call 27; refine Calls.mono (lin_any _ _ _ _) ?_; rintro e w' ⟨rfl, rfl⟩)
        go_ret
        exact ⟨ret_bool (by rw [HB.out, h1, h2, h3]; rfl), hb.out⟩
      | true =>
        cases h4 : inR s 0 4294967295 with
        | false =>
          go_enter Tryd.func10, Tryd.ntmps10
          go_wp2_with (go_at_call 27; refine Calls.mono (lin_any _ _ _ _) ?_; rintro e w' ⟨rfl, rfl⟩)
          go_ret
          exact ⟨ret_bool (by rw [HB.out, h1, h2, h3, h4]; rfl), hb.out⟩
        | true =>
          go_enter Tryd.func10, Tryd.ntmps10
          go_wp2_with (go_at_call 27; refine Calls.mono (lin_any _ _ _ _) ?_; rintro e w' ⟨rfl, rfl⟩)
          go_ret
          exact ⟨ret_bool (by rw [HB.out, h1, h2, h3, h4]; rfl), hb.out⟩
end Go.Proofs.YtbcpfekbnkkflaaDoor
namespace Go.Proofs.YtbcpfekbnkkflaaDoor
open Go.RowKit Go.Shelf
theorem tmod_round (a n : Int) (hn : 0 < n) : Int.tmod (Int.tmod a n + n) n = a % n ∧ 0 ≤ a % n ∧ a % n < n ∧ 0 ≤ Int.tmod a n + n ∧ Int.tmod a n + n < 2 * n ∧ -n ≤ Int.tmod a n ∧ Int.tmod a n < n := by
  have h1 := Int.emod_nonneg a (Int.ne_of_gt hn)
  have h2 := Int.emod_lt_of_pos a hn
  have e : Int.tmod a n = a % n ∨ Int.tmod a n = a % n - n := by
    rw [Int.tmod_eq_emod]
    split
    · left; omega
    · right; rw [Int.natAbs_of_nonneg (by omega)]
  have hb : -n ≤ Int.tmod a n ∧ Int.tmod a n < n := by rcases e with e | e <;> (rw [e]; constructor <;> omega) 
  refine ⟨?_, h1, h2, by omega, by omega, hb.1, hb.2⟩
  rw [Int.tmod_eq_emod_of_nonneg (by omega)]
  rcases e with e | e
  · rw [e, Int.add_emod_right, Int.emod_emod_of_dvd _ (Int.dvd_refl n)]
  · rw [e, show a % n - n + n = a % n by omega, Int.emod_emod_of_dvd _ (Int.dvd_refl n)]
/-- a place that counts round -/
def pl (a : Int) (n : Nat) : Nat := (a % (n : Int)).toNat
set_option maxHeartbeats 2000000 in
set_option maxRecDepth 100000 in
set_option linter.unusedSimpArgs false in
theorem spoilt_any (s : ByteArray) (a b : Int) (w : World) (h0 : 0 < s.size) (hs : s.size ≤ 1000000000000) :
    Calls Tryd.prog 14 #[.string s, .int .i64 a, .int .i64 b] w fun x w' => ∃ (t : ByteArray) (c : UInt8), x = .returned (.string t) ∧ t.data.toList = s.data.toList.set (pl a s.size) c ∧ s.data.toList[pl a s.size]? ≠ some c ∧ Below w.heap.size w w' := by
  obtain ⟨t1, t2, t3, t4, t5, t6, t7⟩ := tmod_round a s.size (by omega)
  obtain ⟨u1, u2, u3, u4, u5, u6, u7⟩ := tmod_round b 255 (by omega)
  have hpI : a % (s.size : Int) = ((pl a s.size : Nat) : Int) := by unfold pl; exact (Int.toNat_of_nonneg t2).symm
  rw [hpI] at t1 t3
  have hIs : pl a s.size < s.size := by omega
  obtain ⟨J, hJ⟩ : ∃ J : Nat, J = (b % 255).toNat := ⟨_, rfl⟩
  have hJ2 : b % 255 = (J : Int) := by rw [hJ]; exact (Int.toNat_of_nonneg u2).symm
  rw [hJ2] at u1 u3
  clear hJ hJ2 hpI u2 t2
  generalize pl a s.size = I at *
  obtain ⟨o, ho⟩ : ∃ o : UInt8, s[I]'hIs = o := ⟨_, rfl⟩
  have HO : Hid (s.data.toList[I]? = some o) := by show _ = _; rw [← ho]; exact Lib.data_getElem? s I hIs
  obtain ⟨c, hc⟩ : ∃ c : UInt8, c = UInt8.ofNat (o.toNat + 1 + J) := ⟨_, rfl⟩
  have ol := o.toNat_lt
  have hcn : c.toNat = (o.toNat + 1 + J) % 256 := by rw [hc, UInt8.toNat_ofNat']
  have hco : c ≠ o := fun e => by rw [e] at hcn; omega
  have hw8 : IntKind.u8.wrap ((o.toNat : Int) + 1 + (J : Int)) = (c.toNat : Int) := by rw [hcn]; simp [IntKind.wrap, IntKind.signed, IntKind.bits]
  have HCO := hide hco
  have hIi : (I : Int) < (s.size : Int) := by omega
  have hs0 : ¬ (s.size : Int) = 0 := by omega
  have hconv : ∀ w0 : World, (convert 59 9 (.slice (some ⟨w0.heap.size, 0, none⟩) 1 1)).run Tryd.prog (w0.alloc (.cells #[.int .u8 (c.toNat : Int)] 5)) = .ok (.string ⟨#[c]⟩) (w0.alloc (.cells #[.int .u8 (c.toNat : Int)] 5)) := fun w0 => by
    refine run_convert_bytes_back (P := Tryd.prog) _ 59 9 5 ⟨w0.heap.size, 0, none⟩ 1 [c] Tryd.underlying59 Tryd.underlying5 Tryd.underlying9 (fun j hj => ?_)
    match j, hj with
    | 0, _ => simp [Addr.add]
  clear hc hcn hco
  go_enter Tryd.func14, Tryd.ntmps14
  go_wp2_with fail
  have BW := hide (Below.refl w.heap.size w).drew
  have HD : Hid ((s.extract 0 I ++ ⟨#[c]⟩ ++ s.extract (I + 1) s.size).data.toList = s.data.toList.set I c) := by
    show _ = _
    rw [ba_app, ba_app, Lib.extract_data, Lib.extract_data, List.set_eq_take_append_cons_drop, if_pos (by rw [size_data]; exact hIs)]
    have : (s.data.toList.drop (I + 1)).take (s.size - (I + 1)) = s.data.toList.drop (I + 1) := List.take_of_length_le (by rw [List.length_drop, size_data]; omega)
    rw [this]
    simp
  have z1 : (s.extract 0 I).size = I := by rw [ByteArray.size_extract]; omega
  have z2 : (s.extract (I + 1) s.size).size = s.size - (I + 1) := by rw [ByteArray.size_extract]; omega
  have z3 : (⟨#[c]⟩ : ByteArray).size = 1 := rfl
  refine wp_region_held_drew (S := fun _ => True) (by kernel_rfl) trivial (fun hHeld => ?_)
  generalize w.drew = wd at *
  have hcv := hconv wd
  refine wpAnyH_take (i := 0) (v := (.string s)) rfl (by kernel_rfl) (by kernel_rfl) (by kernel_rfl) (fun _ _ _ h => h) (Or.inl ⟨by rfl, ?_⟩) (by assumption) ?_
  · intro w' hSw
    (try dsimp only at hSw)
    go_simp <;> first | exact i64_in (by omega) (by omega) | exact u32_in (by omega) (by omega) | exact u32_add _ _ | (rw [Int.tmod_eq_emod_of_nonneg (by omega)]; omega) | (rw [Int.tdiv_eq_ediv_of_nonneg (by omega)]; omega) | omega
  (try simp only [Act.put, List.setIfInBounds_toArray, List.set_cons_zero, List.set_cons_succ])
  refine wpAnyH_take (i := 1) (v := (.int .i64 I)) rfl (by kernel_rfl) (by kernel_rfl) (by kernel_rfl) (fun _ _ _ h => h) (Or.inl ⟨by rfl, ?_⟩) (by assumption) ?_
  · intro w' hSw
    (try dsimp only at hSw)
    go_simp <;> first | exact i64_in (by omega) (by omega) | exact u32_in (by omega) (by omega) | exact u32_add _ _ | (rw [Int.tmod_eq_emod_of_nonneg (by omega)]; omega) | (rw [Int.tdiv_eq_ediv_of_nonneg (by omega)]; omega) | omega
  (try simp only [Act.put, List.setIfInBounds_toArray, List.set_cons_zero, List.set_cons_succ])
  refine wpAnyH_take (i := 2) (v := (.string (s.extract 0 I))) rfl (by kernel_rfl) (by kernel_rfl) (by kernel_rfl) (fun _ _ _ h => h) (Or.inl ⟨by rfl, ?_⟩) (by assumption) ?_
  · intro w' hSw
    (try dsimp only at hSw)
    go_simp <;> first | exact i64_in (by omega) (by omega) | exact u32_in (by omega) (by omega) | exact u32_add _ _ | (rw [Int.tmod_eq_emod_of_nonneg (by omega)]; omega) | (rw [Int.tdiv_eq_ediv_of_nonneg (by omega)]; omega) | omega
  (try simp only [Act.put, List.setIfInBounds_toArray, List.set_cons_zero, List.set_cons_succ])
  refine wpAnyH_take (i := 3) (v := (.int .u8 c.toNat)) rfl (by kernel_rfl) (by kernel_rfl) (by kernel_rfl) (fun _ _ _ h => h) (Or.inl ⟨by rfl, ?_⟩) (by assumption) ?_
  · intro w' hSw
    (try dsimp only at hSw)
    go_simp <;> first | exact i64_in (by omega) (by omega) | exact u32_in (by omega) (by omega) | exact u32_add _ _ | (rw [Int.tmod_eq_emod_of_nonneg (by omega)]; omega) | (rw [Int.tdiv_eq_ediv_of_nonneg (by omega)]; omega) | omega
  (try simp only [Act.put, List.setIfInBounds_toArray, List.set_cons_zero, List.set_cons_succ])
  refine wpAnyH_take (i := 7) (v := (.string s)) rfl (by kernel_rfl) (by kernel_rfl) (by kernel_rfl) (fun _ _ _ h => h) (Or.inl ⟨by rfl, ?_⟩) (by assumption) ?_
  · intro w' hSw
    (try dsimp only at hSw)
    go_simp <;> first | exact i64_in (by omega) (by omega) | exact u32_in (by omega) (by omega) | exact u32_add _ _ | (rw [Int.tmod_eq_emod_of_nonneg (by omega)]; omega) | (rw [Int.tdiv_eq_ediv_of_nonneg (by omega)]; omega) | omega
  (try simp only [Act.put, List.setIfInBounds_toArray, List.set_cons_zero, List.set_cons_succ])
  refine wpAnyH_take (i := 8) (v := (.int .i64 I)) rfl (by kernel_rfl) (by kernel_rfl) (by kernel_rfl) (fun _ _ _ h => h) (Or.inl ⟨by rfl, ?_⟩) (by assumption) ?_
  · intro w' hSw
    (try dsimp only at hSw)
    go_simp <;> first | exact i64_in (by omega) (by omega) | exact u32_in (by omega) (by omega) | exact u32_add _ _ | (rw [Int.tmod_eq_emod_of_nonneg (by omega)]; omega) | (rw [Int.tdiv_eq_ediv_of_nonneg (by omega)]; omega) | omega
  (try simp only [Act.put, List.setIfInBounds_toArray, List.set_cons_zero, List.set_cons_succ])
  refine wpAnyH_take (i := 9) (v := (.int .i64 ((I + 1 : Nat) : Int))) rfl (by kernel_rfl) (by kernel_rfl) (by kernel_rfl) (fun _ _ _ h => h) (Or.inl ⟨by rfl, ?_⟩) (by assumption) ?_
  · intro w' hSw
    (try dsimp only at hSw)
    (go_simp; first | exact wrap64_in (by omega) (by omega) | (simp [IntKind.wrap, IntKind.signed, IntKind.bits]; omega))
  (try simp only [Act.put, List.setIfInBounds_toArray, List.set_cons_zero, List.set_cons_succ])
  refine wpAnyH_take (i := 10) (v := (.string (s.extract (I + 1) s.size))) rfl (by kernel_rfl) (by kernel_rfl) (by kernel_rfl) (fun _ _ _ h => h) (Or.inl ⟨by rfl, ?_⟩) (by assumption) ?_
  · intro w' hSw
    (try dsimp only at hSw)
    go_simp <;> first | exact i64_in (by omega) (by omega) | exact u32_in (by omega) (by omega) | exact u32_add _ _ | (rw [Int.tmod_eq_emod_of_nonneg (by omega)]; omega) | (rw [Int.tdiv_eq_ediv_of_nonneg (by omega)]; omega) | omega
  (try simp only [Act.put, List.setIfInBounds_toArray, List.set_cons_zero, List.set_cons_succ])
  refine wpAnyH_ready (rs := [4]) (by kernel_rfl) (by simp) ?_
  refine AllReadyH.cons rfl (fun K hK => ?_) AllReadyH.nil
  go_simp
  refine hK.out _ _ (trivial) (fun hHeld => ?_)
  clear hK
  (try simp only [Act.put, List.setIfInBounds_toArray, List.set_cons_zero, List.set_cons_succ])
  refine wpAnyH_ready (rs := [5]) (by kernel_rfl) (by simp) ?_
  refine AllReadyH.cons rfl (fun K hK => ?_) AllReadyH.nil
  go_simp
  refine hK.out _ _ (trivial) (fun hHeld => ?_)
  clear hK
  (try simp only [Act.put, List.setIfInBounds_toArray, List.set_cons_zero, List.set_cons_succ])
  generalize s.extract 0 I = L at *
  generalize s.extract (I + 1) s.size = R at *
  refine wpAnyH_take (i := 6) (v := (.string (L ++ ⟨#[c]⟩))) rfl (by kernel_rfl) (by kernel_rfl) (by kernel_rfl) (fun _ _ _ h => h) (Or.inl ⟨by rfl, ?_⟩) (by assumption) ?_
  · intro w' hSw
    (try dsimp only at hSw)
    (go_simp; first | omega | (rw [if_neg (by (try simp only [ByteArray.size_append, ByteArray.size_extract]); (try simp only [ByteArray.size]); (try simp); omega)]; rfl))
  (try simp only [Act.put, List.setIfInBounds_toArray, List.set_cons_zero, List.set_cons_succ])
  refine wpAnyH_take (i := 11) (v := (.string (L ++ ⟨#[c]⟩ ++ R))) rfl (by kernel_rfl) (by kernel_rfl) (by kernel_rfl) (fun _ _ _ h => h) (Or.inl ⟨by rfl, ?_⟩) (by assumption) ?_
  · intro w' hSw
    (try dsimp only at hSw)
    (go_simp; first | omega | (rw [if_neg (by (try simp only [ByteArray.size_append, ByteArray.size_extract]); (try simp only [ByteArray.size]); (try simp); omega)]; rfl))
  (try simp only [Act.put, List.setIfInBounds_toArray, List.set_cons_zero, List.set_cons_succ])
  refine wpAnyH_ready (rs := [12]) (by kernel_rfl) (by simp) ?_
  refine AllReadyH.cons rfl (fun K hK => ?_) AllReadyH.nil
  go_simp
  refine hK.out _ _ (trivial) (fun hHeld => ?_)
  clear hK
  (try simp only [Act.put, List.setIfInBounds_toArray, List.set_cons_zero, List.set_cons_succ])
  refine wpAnyH_done (by kernel_rfl) ?_ _
  clear hHeld
  go_wp2_with fail
  go_ret
  refine ⟨_, c, rfl, HD.out, ?_, BW.out.alloc BW.out.size _⟩
  rw [HO.out]
  intro e
  exact HCO.out (Option.some.inj e).symm
end Go.Proofs.YtbcpfekbnkkflaaDoor
namespace Go.Proofs.YtbcpfekbnkkflaaDoor
open Go.RowKit Go.Shelf
/-- notes in memory, from a place of a block on -/
def LiesO (b o : Nat) (w : World) (l : List NV) : Prop := ∀ i (h : i < l.length), w.cell? ⟨b, o + i * 4, none⟩ = some (.int .i64 l[i].1) ∧ w.cell? ⟨b, o + i * 4 + 1, none⟩ = some (.int .i64 l[i].2.1) ∧ w.cell? ⟨b, o + i * 4 + 2, none⟩ = some (.int .i64 l[i].2.2.1) ∧ w.cell? ⟨b, o + i * 4 + 3, none⟩ = some (.int .i64 l[i].2.2.2)
theorem LiesO.below {b o : Nat} {w w' : World} {l : List NV} (h : LiesO b o w l) (hb : b < w.heap.size) (hw : Below w.heap.size w w') : LiesO b o w' l := fun i hi => by
  rw [hw.cell (by exact hb), hw.cell (by exact hb), hw.cell (by exact hb), hw.cell (by exact hb)]; exact h i hi
theorem LiesO.take {b o : Nat} {w : World} {l : List NV} (h : LiesO b o w l) (k : Nat) : LiesO b o w (l.take k) := fun i hi => by
  have hi' : i < l.length := by rw [List.length_take] at hi; omega
  rw [List.getElem_take]; exact h i hi'
set_option maxHeartbeats 1000000 in
set_option maxRecDepth 100000 in
/-- sameNotes, of two lists that are the same -/
theorem sameNotes_o (a1 a2 : Option Addr) (b1 o1 c1 b2 o2 c2 : Nat) (l : List NV) (w : World) (h1 : 0 < l.length → a1 = some ⟨b1, o1, none⟩) (h2 : 0 < l.length → a2 = some ⟨b2, o2, none⟩) (hb1 : 0 < l.length → b1 < w.heap.size) (hb2 : 0 < l.length → b2 < w.heap.size) (hlen : l.length ≤ 1000000000000) (l1 : LiesO b1 o1 w l) (l2 : LiesO b2 o2 w l) :
    Calls Tryd.prog 13 #[.slice a1 l.length c1, .slice a2 l.length c2] w fun e w' => e = .returned (.bool true) ∧ Below w.heap.size w w' := by
  have L1 := hide l1
  have L2 := hide l2
  clear l1 l2
  go_enter Tryd.func13, Tryd.ntmps13
  go_wp2_with fail
  go_loopw [5] (fun i wr => ∃ k : Nat, k ≤ l.length ∧ i = .int .i64 k ∧ Below w.heap.size w wr) (fun i _ => l.length - (intOf i).toNat)
  case atStart => exact ⟨0, Nat.zero_le _, rfl, Below.refl _ _⟩
  case round =>
    obtain ⟨k, hk, rfl, hnx⟩ := hrel
    by_cases hlt : k < l.length
    · obtain rfl := h1 (by omega)
      obtain rfl := h2 (by omega)
      obtain ⟨d1, d2, d3, d4⟩ := L1.out.below (hb1 (by omega)) hnx k hlt
      obtain ⟨d5, d6, d7, d8⟩ := L2.out.below (hb2 (by omega)) hnx k hlt
      have hk1 : (k : Int) < (l.length : Int) := by omega
      have HNX := hide hnx
      clear hnx
      generalize l[k].1 = X at *
      generalize l[k].2.1 = Y at *
      generalize l[k].2.2.1 = Z at *
      generalize l[k].2.2.2 = V at *
      go_wp2_with fail
      go_quiet (fail)
      go_wp2
      go_roundw
      case rel => exact ⟨k + 1, by omega, by go_num, below_drewN HNX.out _⟩
      case measure => simp [intOf]; omega
    · have HNX := hide hnx
      clear hnx
      go_wp2
      go_ret
      exact ⟨rfl, HNX.out⟩
theorem own_notesO {w : World} {base : Nat} {v : Value} {l : List NV} {e : TypeId} (h : w.ownsRow base e 4 v l.length (nc l)) : ∃ (a : Option Addr) (g c : Nat), v = .slice a l.length c ∧ l.length ≤ c ∧ (0 < l.length → a = some ⟨g, 0, none⟩) ∧ (0 < l.length → g < w.heap.size) ∧ LiesO g 0 w l := by
  have h' := h
  obtain ⟨_, ⟨rfl, hn⟩ | ⟨g, cap, cur, rfl, _, hg, hc, _⟩⟩ := h
  · exact ⟨none, 0, 0, by rw [hn], by omega, fun z => by omega, fun z => by omega, fun i hi => by omega⟩
  · exact ⟨_, g, cap, rfl, hc, fun _ => rfl, fun _ => (Array.getElem?_eq_some_iff.1 hg).1, fun i hi => by have := rowN_lies h' (Nat.le_refl _) i hi; simpa only [Nat.zero_add] using this⟩
/-- a journal's length, its lines -/
theorem nS_pos {n : NV} (h : nOk n) : 0 < (nS n).size := by
  unfold nS noteS
  rw [if_pos (show noteOk n.1 n.2.1 n.2.2.1 n.2.2.2 = true from h), ByteArray.size_append, strOf_size, strOf_size, sealL_len]
  omega
theorem jl_len_take (ns : List NV) (k : Nat) : (jl (ns.take k)).length ≤ (jl ns).length := by
  rw [jl_split ns k, List.length_append]; omega
theorem jl_mono (ns : List NV) {i k : Nat} (h : i ≤ k) : (jl (ns.take i)).length ≤ (jl (ns.take k)).length := by
  have := jl_len_take (ns.take k) i
  rwa [List.take_take, Nat.min_eq_left h] at this
/-- in which line a place lies -/
theorem jl_find (ns : List NV) (_hg : ∀ n ∈ ns, nOk n) (x : Nat) (hx : x < (jl ns).length) : ∃ k, ∃ _ : k < ns.length, (jl (ns.take k)).length ≤ x ∧ x < (jl (ns.take (k + 1))).length := by
  have : ∀ j, j ≤ ns.length → x < (jl (ns.take j)).length → ∃ k, ∃ _ : k < ns.length, (jl (ns.take k)).length ≤ x ∧ x < (jl (ns.take (k + 1))).length := by
    intro j
    induction j with
    | zero => intro _ h; simp [jl] at h
    | succ j ih =>
      intro hj h
      by_cases hc : (jl (ns.take j)).length ≤ x
      · exact ⟨j, by omega, hc, h⟩
      · exact ih (by omega) (by omega)
  exact this ns.length (Nat.le_refl _) (by rwa [List.take_length])
end Go.Proofs.YtbcpfekbnkkflaaDoor
namespace Go.Proofs.YtbcpfekbnkkflaaDoor
open Go.RowKit Go.Shelf
theorem notes_more {tx : ByteArray} {n : Nat} {l0 : List NV} {q0 : Nat} (h : notesAt tx n = some (l0, q0)) : ∀ t l q, notesAt tx (n + t) = some (l, q) → (∃ l', l = l0 ++ l') ∧ q0 ≤ q := by
  intro t
  induction t with
  | zero => intro l q h'; rw [Nat.add_zero, h] at h'; cases h'; exact ⟨⟨[], by simp⟩, Nat.le_refl _⟩
  | succ t ih =>
    intro l q h'
    rw [← Nat.add_assoc, notesAt] at h'
    split at h'
    · cases h'
    · rename_i l1 q1 h1
      obtain ⟨⟨l2, e2⟩, hq⟩ := ih _ _ h1
      by_cases hz : nsz tx q1 = 0
      · rw [if_pos hz] at h'; cases h'
      · rw [if_neg hz] at h'
        simp only [Option.some.injEq, Prod.mk.injEq] at h'
        obtain ⟨rfl, rfl⟩ := h'
        exact ⟨⟨l2 ++ [nvAt tx q1], by rw [e2, List.append_assoc]⟩, by omega⟩
theorem notes_long {tx : ByteArray} {n k : Nat} {l0 l : List NV} {q0 q : Nat} (h : notesAt tx n = some (l0, q0)) (h' : notesAt tx k = some (l, q)) (hz : nsz tx q = 0) : (∃ l', l = l0 ++ l') ∧ q0 ≤ q := by
  rcases Nat.lt_or_ge k n with c | c
  · have := notes_none h' hz (n - (k + 1)); rw [show k + 1 + (n - (k + 1)) = n by omega, h] at this; cases this
  · exact notes_more h (k - n) l q (by rwa [show n + (k - n) = k by omega])
theorem parse_one (tx : ByteArray) (w : World) (htx : tx.size ≤ 1000000000000) (hT4 : Tab4 0 w) {n q : Nat} {l : List NV} (h : notesAt tx n = some (l, q) ∧ nsz tx q = 0) :
    Calls Tryd.prog 12 #[.string tx] w fun e w' => ∃ (v : Value), e = .returned (.tuple #[v, .int .i64 (q : Int)]) ∧ w'.ownsRow w.heap.size 23 4 v l.length (nc l) ∧ Below w.heap.size w w' := by
  refine Calls.mono (parseNotes_any tx w htx hT4) ?_
  rintro e w' ⟨v, k, l', q', rfl, n1, z1, o1, b1⟩
  obtain ⟨rfl, rfl⟩ := notes_one n1 z1 h.1 h.2
  exact ⟨v, rfl, o1, b1⟩
theorem parse_more (tx : ByteArray) (w : World) (htx : tx.size ≤ 1000000000000) (hT4 : Tab4 0 w) {n q : Nat} {l : List NV} (h : notesAt tx n = some (l, q)) :
    Calls Tryd.prog 12 #[.string tx] w fun e w' => ∃ (v : Value) (l2 : List NV) (q2 : Nat), e = .returned (.tuple #[v, .int .i64 (q2 : Int)]) ∧ (∃ l', l2 = l ++ l') ∧ q ≤ q2 ∧ q2 ≤ tx.size ∧ l2.length ≤ tx.size ∧ w'.ownsRow w.heap.size 23 4 v l2.length (nc l2) ∧ Below w.heap.size w w' := by
  refine Calls.mono (parseNotes_any tx w htx hT4) ?_
  rintro e w' ⟨v, k, l', q', rfl, n1, z1, o1, b1⟩
  obtain ⟨a, b⟩ := notes_long h n1 z1
  obtain ⟨c, d, f⟩ := notesAt_le _ _ _ n1
  exact ⟨v, l', q', rfl, a, b, d, by omega, o1, b1⟩
/-- the notes are in their ranges -/
def nI (n : NV) : Prop := I64 n.1 ∧ I64 n.2.1 ∧ I64 n.2.2.1 ∧ I64 n.2.2.2
theorem nS_len {n : NV} (h : nI n) : (nS n).size ≤ 100 := noteS_len _ _ _ _ h.1 h.2.1 h.2.2.1
theorem jl_len {ns : List NV} (h : ∀ n ∈ ns, nI n) : (jl ns).length ≤ 100 * ns.length := by
  induction ns with
  | nil => simp [jl]
  | cons n r ih =>
    have h1 := ih (fun m hm => h m (List.mem_cons_of_mem _ hm))
    have h2 := nS_len (h n List.mem_cons_self)
    have e : jl (n :: r) = (nS n).data.toList ++ jl r := rfl
    rw [e, List.length_append, size_data, List.length_cons]
    omega
/-- what stands in ends -/
def endsOf (ns : List NV) (k : Nat) : List Value := (List.range k).map fun i => .int .i64 ((jl (ns.take (i + 1))).length : Int)
theorem endsOf_succ (ns : List NV) (k : Nat) : endsOf ns (k + 1) = endsOf ns k ++ [.int .i64 ((jl (ns.take (k + 1))).length : Int)] := by
  unfold endsOf; rw [List.range_succ, List.map_append]; rfl
theorem endsOf_at (ns : List NV) {k i : Nat} (h : i < k) : (endsOf ns k)[i]? = some (.int .i64 ((jl (ns.take (i + 1))).length : Int)) := by
  unfold endsOf; rw [List.getElem?_map, List.getElem?_range h]; rfl
theorem strOf_app (a : List UInt8) (t : ByteArray) : strOf a ++ t = strOf (a ++ t.data.toList) := by
  apply ByteArray.ext; apply Array.toList_inj.1
  rw [ba_app, strOf_data, strOf_data]
end Go.Proofs.YtbcpfekbnkkflaaDoor
