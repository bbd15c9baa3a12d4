import Derived.Test.YtaieeabolcldgaaDoorPart42
import Derived.Test.YtaieeabolcldgaaDoorPart44
namespace Go.Proofs.YtaieeabolcldgaaDoor
open Go.RowKit Go.Shelf
set_option maxHeartbeats 1000000 in
set_option maxRecDepth 100000 in
theorem lin_any (n lo hi : Int) (w : World) :
    Calls Tryd.prog 27 #[.int .i64 n, .int .i64 lo, .int .i64 hi] w fun e w' => e = .returned (.bool (inR n lo hi)) ∧ w = w' := by
  obtain ⟨B, hB⟩ : ∃ B, B = inR n lo hi := ⟨_, rfl⟩
  rw [← hB]
  unfold inR at hB
  have HB := hide hB
  clear hB
  by_cases h : lo ≤ n
  · go_enter Tryd.func27, Tryd.ntmps27
    go_wp2
    go_ret
    refine ⟨ret_bool ?_, rfl⟩
    rw [HB.out, decide_eq_true h]; rfl
  · go_enter Tryd.func27, Tryd.ntmps27
    go_wp2
    go_ret
    refine ⟨ret_bool ?_, rfl⟩
    rw [HB.out, decide_eq_false (by omega)]; rfl
set_option maxHeartbeats 2000000 in
set_option maxRecDepth 100000 in
theorem goodNote_any (c p e s : Int) (w : World) :
    Calls Tryd.prog 10 #[.agg #[.int .i64 c, .int .i64 p, .int .i64 e, .int .i64 s]] w fun x w' => x = .returned (.bool (noteOk c p e s)) ∧ Below w.heap.size w w' := by
  have hb : Hid (Below w.heap.size w (w.alloc (.cells #[.int .i64 c, .int .i64 p, .int .i64 e, .int .i64 s] 23))) := (Below.refl _ _).alloc (Nat.le_refl _) _
  obtain ⟨B, hB⟩ : ∃ B, B = noteOk c p e s := ⟨_, rfl⟩
  rw [← hB]
  unfold noteOk at hB
  have HB := hide hB
  clear hB
  cases h1 : inR c 1 4 with
  | false =>
    go_enter Tryd.func10, Tryd.ntmps10
    go_wp2_with (go_at_call 27; refine Calls.mono (lin_any _ _ _ _) ?_; rintro e w' ⟨rfl, rfl⟩)
    go_ret
    exact ⟨ret_bool (by rw [HB.out, h1]; rfl), hb.out⟩
  | true =>
    cases h2 : inR p 0 9007199254740992 with
    | false =>
      go_enter Tryd.func10, Tryd.ntmps10
      go_wp2_with (go_at_call 27; refine Calls.mono (lin_any _ _ _ _) ?_; rintro e w' ⟨rfl, rfl⟩)
      go_ret
      exact ⟨ret_bool (by rw [HB.out, h1, h2]; rfl), hb.out⟩
    | true =>
      cases h3 : inR e 0 9007199254740992 with
      | false =>
        go_enter Tryd.func10, Tryd.ntmps10
        go_wp2_with (go_at_call 27; refine Calls.mono (lin_any _ _ _ _) ?_; rintro e w' ⟨rfl, rfl⟩)
        go_ret
        exact ⟨ret_bool (by rw [HB.out, h1, h2, h3]; rfl), hb.out⟩
      | true =>
        cases h4 : inR s 0 4294967295 with
        | false =>
          go_enter Tryd.func10, Tryd.ntmps10
          go_wp2_with (go_at_call 27; refine Calls.mono (lin_any _ _ _ _) ?_; rintro e w' ⟨rfl, rfl⟩)
          go_ret
          exact ⟨ret_bool (by rw [HB.out, h1, h2, h3, h4]; rfl), hb.out⟩
        | true =>
          go_enter Tryd.func10, Tryd.ntmps10
          go_wp2_with (go_at_call 27; refine Calls.mono (lin_any _ _ _ _) ?_; rintro e w' ⟨rfl, rfl⟩)
          go_ret
          exact ⟨ret_bool (by rw [HB.out, h1, h2, h3, h4]; rfl), hb.out⟩
end Go.Proofs.YtaieeabolcldgaaDoor
namespace Go.Proofs.YtaieeabolcldgaaDoor
open Go.RowKit Go.Shelf
theorem tmod_round (a n : Int) (hn : 0 < n) : Int.tmod (Int.tmod a n + n) n = a % n ∧ 0 ≤ a % n ∧ a % n < n ∧ 0 ≤ Int.tmod a n + n ∧ Int.tmod a n + n < 2 * n ∧ -n ≤ Int.tmod a n ∧ Int.tmod a n < n := by
  have h1 := Int.emod_nonneg a (Int.ne_of_gt hn)
  have h2 := Int.emod_lt_of_pos a hn
  have e : Int.tmod a n = a % n ∨ Int.tmod a n = a % n - n := by
    rw [Int.tmod_eq_emod]
    split
    · left; omega
    · right; rw [Int.natAbs_of_nonneg (by omega)]
  have hb : -n ≤ Int.tmod a n ∧ Int.tmod a n < n := by rcases e with e | e <;> (rw [e]; constructor <;> omega) 
  refine ⟨?_, h1, h2, by omega, by omega, hb.1, hb.2⟩
  rw [Int.tmod_eq_emod_of_nonneg (by omega)]
  rcases e with e | e
  · rw [e, Int.add_emod_right, Int.emod_emod_of_dvd _ (Int.dvd_refl n)]
  · rw [e, show a % n - n + n = a % n by omega, Int.emod_emod_of_dvd _ (Int.dvd_refl n)]
/-- a place that counts round -/
def pl (a : Int) (n : Nat) : Nat := (a % (n : Int)).toNat
set_option maxHeartbeats 2000000 in
set_option maxRecDepth 100000 in
set_option linter.unusedSimpArgs false in
theorem spoilt_any (s : ByteArray) (a b : Int) (w : World) (h0 : 0 < s.size) (hs : s.size ≤ 1000000000000) :
    Calls Tryd.prog 14 #[.string s, .int .i64 a, .int .i64 b] w fun x w' => ∃ (t : ByteArray) (c : UInt8), x = .returned (.string t) ∧ t.data.toList = s.data.toList.set (pl a s.size) c ∧ s.data.toList[pl a s.size]? ≠ some c ∧ Below w.heap.size w w' := by
  obtain ⟨t1, t2, t3, t4, t5, t6, t7⟩ := tmod_round a s.size (by omega)
  obtain ⟨u1, u2, u3, u4, u5, u6, u7⟩ := tmod_round b 255 (by omega)
  have hpI : a % (s.size : Int) = ((pl a s.size : Nat) : Int) := by unfold pl; exact (Int.toNat_of_nonneg t2).symm
  rw [hpI] at t1 t3
  have hIs : pl a s.size < s.size := by omega
  obtain ⟨J, hJ⟩ : ∃ J : Nat, J = (b % 255).toNat := ⟨_, rfl⟩
  have hJ2 : b % 255 = (J : Int) := by rw [hJ]; exact (Int.toNat_of_nonneg u2).symm
  rw [hJ2] at u1 u3
  clear hJ hJ2 hpI u2 t2
  generalize pl a s.size = I at *
  obtain ⟨o, ho⟩ : ∃ o : UInt8, s[I]'hIs = o := ⟨_, rfl⟩
  have HO : Hid (s.data.toList[I]? = some o) := by show _ = _; rw [← ho]; exact Lib.data_getElem? s I hIs
  obtain ⟨c, hc⟩ : ∃ c : UInt8, c = UInt8.ofNat (o.toNat + 1 + J) := ⟨_, rfl⟩
  have ol := o.toNat_lt
  have hcn : c.toNat = (o.toNat + 1 + J) % 256 := by rw [hc, UInt8.toNat_ofNat']
  have hco : c ≠ o := fun e => by rw [e] at hcn; omega
  have hw8 : IntKind.u8.wrap ((o.toNat : Int) + 1 + (J : Int)) = (c.toNat : Int) := by rw [hcn]; simp [IntKind.wrap, IntKind.signed, IntKind.bits]
  have HCO := hide hco
  have hIi : (I : Int) < (s.size : Int) := by omega
  have hs0 : ¬ (s.size : Int) = 0 := by omega
  have hconv : ∀ w0 : World, (convert 59 9 (.slice (some ⟨w0.heap.size, 0, none⟩) 1 1)).run Tryd.prog (w0.alloc (.cells #[.int .u8 (c.toNat : Int)] 5)) = .ok (.string ⟨#[c]⟩) (w0.alloc (.cells #[.int .u8 (c.toNat : Int)] 5)) := fun w0 => by
    refine run_convert_bytes_back (P := Tryd.prog) _ 59 9 5 ⟨w0.heap.size, 0, none⟩ 1 [c] Tryd.underlying59 Tryd.underlying5 Tryd.underlying9 (fun j hj => ?_)
    match j, hj with
    | 0, _ => simp [Addr.add]
  clear hc hcn hco
  go_enter Tryd.func14, Tryd.ntmps14
  go_wp2_with fail
  have BW := hide (Below.refl w.heap.size w).drew
  have HD : Hid ((s.extract 0 I ++ ⟨#[c]⟩ ++ s.extract (I + 1) s.size).data.toList = s.data.toList.set I c) := by
    show _ = _
    rw [ba_app, ba_app, Lib.extract_data, Lib.extract_data, List.set_eq_take_append_cons_drop, if_pos (by rw [size_data]; exact hIs)]
    have : (s.data.toList.drop (I + 1)).take (s.size - (I + 1)) = s.data.toList.drop (I + 1) := List.take_of_length_le (by rw [List.length_drop, size_data]; omega)
    rw [this]
    simp
  have z1 : (s.extract 0 I).size = I := by rw [ByteArray.size_extract]; omega
  have z2 : (s.extract (I + 1) s.size).size = s.size - (I + 1) := by rw [ByteArray.size_extract]; omega
  have z3 : (⟨#[c]⟩ : ByteArray).size = 1 := rfl
  refine wp_region_held_drew (S := fun _ => True) (by kernel_rfl) trivial (fun hHeld => ?_)
  generalize w.drew = wd at *
  have hcv := hconv wd
  refine wpAnyH_take (i := 0) (v := (.string s)) rfl (by kernel_rfl) (by kernel_rfl) (by kernel_rfl) (fun _ _ _ h => h) (Or.inl ⟨by rfl, ?_⟩) (by assumption) ?_
  · intro w' hSw
    (try dsimp only at hSw)
    go_simp <;> first | exact i64_in (by omega) (by omega) | exact u32_in (by omega) (by omega) | exact u32_add _ _ | (rw [Int.tmod_eq_emod_of_nonneg (by omega)]; omega) | (rw [Int.tdiv_eq_ediv_of_nonneg (by omega)]; omega) | omega
  (try simp only [Act.put, List.setIfInBounds_toArray, List.set_cons_zero, List.set_cons_succ])
  refine wpAnyH_take (i := 1) (v := (.int .i64 I)) rfl (by kernel_rfl) (by kernel_rfl) (by kernel_rfl) (fun _ _ _ h => h) (Or.inl ⟨by rfl, ?_⟩) (by assumption) ?_
  · intro w' hSw
    (try dsimp only at hSw)
    go_simp <;> first | exact i64_in (by omega) (by omega) | exact u32_in (by omega) (by omega) | exact u32_add _ _ | (rw [Int.tmod_eq_emod_of_nonneg (by omega)]; omega) | (rw [Int.tdiv_eq_ediv_of_nonneg (by omega)]; omega) | omega
  (try simp only [Act.put, List.setIfInBounds_toArray, List.set_cons_zero, List.set_cons_succ])
  refine wpAnyH_take (i := 2) (v := (.string (s.extract 0 I))) rfl (by kernel_rfl) (by kernel_rfl) (by kernel_rfl) (fun _ _ _ h => h) (Or.inl ⟨by rfl, ?_⟩) (by assumption) ?_
  · intro w' hSw
    (try dsimp only at hSw)
    go_simp <;> first | exact i64_in (by omega) (by omega) | exact u32_in (by omega) (by omega) | exact u32_add _ _ | (rw [Int.tmod_eq_emod_of_nonneg (by omega)]; omega) | (rw [Int.tdiv_eq_ediv_of_nonneg (by omega)]; omega) | omega
  (try simp only [Act.put, List.setIfInBounds_toArray, List.set_cons_zero, List.set_cons_succ])
  refine wpAnyH_take (i := 3) (v := (.int .u8 c.toNat)) rfl (by kernel_rfl) (by kernel_rfl) (by kernel_rfl) (fun _ _ _ h => h) (Or.inl ⟨by rfl, ?_⟩) (by assumption) ?_
  · intro w' hSw
    (try dsimp only at hSw)
    go_simp <;> first | exact i64_in (by omega) (by omega) | exact u32_in (by omega) (by omega) | exact u32_add _ _ | (rw [Int.tmod_eq_emod_of_nonneg (by omega)]; omega) | (rw [Int.tdiv_eq_ediv_of_nonneg (by omega)]; omega) | omega
  (try simp only [Act.put, List.setIfInBounds_toArray, List.set_cons_zero, List.set_cons_succ])
  refine wpAnyH_take (i := 7) (v := (.string s)) rfl (by kernel_rfl) (by kernel_rfl) (by kernel_rfl) (fun _ _ _ h => h) (Or.inl ⟨by rfl, ?_⟩) (by assumption) ?_
  · intro w' hSw
    (try dsimp only at hSw)
    go_simp <;> first | exact i64_in (by omega) (by omega) | exact u32_in (by omega) (by omega) | exact u32_add _ _ | (rw [Int.tmod_eq_emod_of_nonneg (by omega)]; omega) | (rw [Int.tdiv_eq_ediv_of_nonneg (by omega)]; omega) | omega
  (try simp only [Act.put, List.setIfInBounds_toArray, List.set_cons_zero, List.set_cons_succ])
  refine wpAnyH_take (i := 8) (v := (.int .i64 I)) rfl (by kernel_rfl) (by kernel_rfl) (by kernel_rfl) (fun _ _ _ h => h) (Or.inl ⟨by rfl, ?_⟩) (by assumption) ?_
  · intro w' hSw
    (try dsimp only at hSw)
    go_simp <;> first | exact i64_in (by omega) (by omega) | exact u32_in (by omega) (by omega) | exact u32_add _ _ | (rw [Int.tmod_eq_emod_of_nonneg (by omega)]; omega) | (rw [Int.tdiv_eq_ediv_of_nonneg (by omega)]; omega) | omega
  (try simp only [Act.put, List.setIfInBounds_toArray, List.set_cons_zero, List.set_cons_succ])
  refine wpAnyH_take (i := 9) (v := (.int .i64 ((I + 1 : Nat) : Int))) rfl (by kernel_rfl) (by kernel_rfl) (by kernel_rfl) (fun _ _ _ h => h) (Or.inl ⟨by rfl, ?_⟩) (by assumption) ?_
  · intro w' hSw
    (try dsimp only at hSw)
    (go_simp; first | exact wrap64_in (by omega) (by omega) | (simp [IntKind.wrap, IntKind.signed, IntKind.bits]; omega))
  (try simp only [Act.put, List.setIfInBounds_toArray, List.set_cons_zero, List.set_cons_succ])
  refine wpAnyH_take (i := 10) (v := (.string (s.extract (I + 1) s.size))) rfl (by kernel_rfl) (by kernel_rfl) (by kernel_rfl) (fun _ _ _ h => h) (Or.inl ⟨by rfl, ?_⟩) (by assumption) ?_
  · intro w' hSw
    (try dsimp only at hSw)
    go_simp <;> first | exact i64_in (by omega) (by omega) | exact u32_in (by omega) (by omega) | exact u32_add _ _ | (rw [Int.tmod_eq_emod_of_nonneg (by omega)]; omega) | (rw [Int.tdiv_eq_ediv_of_nonneg (by omega)]; omega) | omega
  (try simp only [Act.put, List.setIfInBounds_toArray, List.set_cons_zero, List.set_cons_succ])
  refine wpAnyH_ready (rs := [4]) (by kernel_rfl) (by simp) ?_
  refine AllReadyH.cons rfl (fun K hK => ?_) AllReadyH.nil
  go_simp
  refine hK.out _ _ (trivial) (fun hHeld => ?_)
  clear hK
  (try simp only [Act.put, List.setIfInBounds_toArray, List.set_cons_zero, List.set_cons_succ])
  refine wpAnyH_ready (rs := [5]) (by kernel_rfl) (by simp) ?_
  refine AllReadyH.cons rfl (fun K hK => ?_) AllReadyH.nil
  go_simp
  refine hK.out _ _ (trivial) (fun hHeld => ?_)
  clear hK
  (try simp only [Act.put, List.setIfInBounds_toArray, List.set_cons_zero, List.set_cons_succ])
  generalize s.extract 0 I = L at *
  generalize s.extract (I + 1) s.size = R at *
  refine wpAnyH_take (i := 6) (v := (.string (L ++ ⟨#[c]⟩))) rfl (by kernel_rfl) (by kernel_rfl) (by kernel_rfl) (fun _ _ _ h => h) (Or.inl ⟨by rfl, ?_⟩) (by assumption) ?_
  · intro w' hSw
    (try dsimp only at hSw)
    (go_simp; first | omega | (rw [if_neg (by (try simp only [ByteArray.size_append, ByteArray.size_extract]); (try simp only [ByteArray.size]); (try simp); omega)]; rfl))
  (try simp only [Act.put, List.setIfInBounds_toArray, List.set_cons_zero, List.set_cons_succ])
  refine wpAnyH_take (i := 11) (v := (.string (L ++ ⟨#[c]⟩ ++ R))) rfl (by kernel_rfl) (by kernel_rfl) (by kernel_rfl) (fun _ _ _ h => h) (Or.inl ⟨by rfl, ?_⟩) (by assumption) ?_
  · intro w' hSw
    (try dsimp only at hSw)
    (go_simp; first | omega | (rw [if_neg (by (try simp only [ByteArray.size_append, ByteArray.size_extract]); (try simp only [ByteArray.size]); (try simp); omega)]; rfl))
  (try simp only [Act.put, List.setIfInBounds_toArray, List.set_cons_zero, List.set_cons_succ])
  refine wpAnyH_ready (rs := [12]) (by kernel_rfl) (by simp) ?_
  refine AllReadyH.cons rfl (fun K hK => ?_) AllReadyH.nil
  go_simp
  refine hK.out _ _ (trivial) (fun hHeld => ?_)
  clear hK
  (try simp only [Act.put, List.setIfInBounds_toArray, List.set_cons_zero, List.set_cons_succ])
  refine wpAnyH_done (by kernel_rfl) ?_ _
  clear hHeld
  go_wp2_with fail
  go_ret
  refine ⟨_, c, rfl, HD.out, ?_, BW.out.alloc BW.out.size _⟩
  rw [HO.out]
  intro e
  exact HCO.out (Option.some.inj e).symm
end Go.Proofs.YtaieeabolcldgaaDoor
