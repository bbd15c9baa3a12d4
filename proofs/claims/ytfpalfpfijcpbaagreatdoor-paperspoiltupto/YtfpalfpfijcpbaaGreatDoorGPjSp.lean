import Derived.Test.YtfpalfpfijcpbaaGreatDoorGPjSpNotes
import Derived.Test.YtfpalfpfijcpbaaGreatDoorGPtFit
namespace Go.Proofs.YtfpalfpfijcpbaaGreatDoor
open Go.RowKit Go.Shelf
theorem tmod_round (a n : Int) (hn : 0 < n) : Int.tmod (Int.tmod a n + n) n = a % n ∧ 0 ≤ a % n ∧ a % n < n ∧ 0 ≤ Int.tmod a n + n ∧ Int.tmod a n + n < 2 * n ∧ -n ≤ Int.tmod a n ∧ Int.tmod a n < n := by
  have h1 := Int.emod_nonneg a (Int.ne_of_gt hn)
  have h2 := Int.emod_lt_of_pos a hn
  have e : Int.tmod a n = a % n ∨ Int.tmod a n = a % n - n := by
    rw [Int.tmod_eq_emod]
    split
    · left; omega
    · right; rw [Int.natAbs_of_nonneg (by omega)]
  have hb : -n ≤ Int.tmod a n ∧ Int.tmod a n < n := by rcases e with e | e <;> (rw [e]; constructor <;> omega) 
  refine ⟨?_, h1, h2, by omega, by omega, hb.1, hb.2⟩
  rw [Int.tmod_eq_emod_of_nonneg (by omega)]
  rcases e with e | e
  · rw [e, Int.add_emod_right, Int.emod_emod_of_dvd _ (Int.dvd_refl n)]
  · rw [e, show a % n - n + n = a % n by omega, Int.emod_emod_of_dvd _ (Int.dvd_refl n)]
/-- a place that counts round -/
def pl (a : Int) (n : Nat) : Nat := (a % (n : Int)).toNat
set_option maxHeartbeats 2000000 in
set_option maxRecDepth 100000 in
set_option linter.unusedSimpArgs false in
theorem spoilt_any (s : ByteArray) (a b : Int) (w : World) (h0 : 0 < s.size) (hs : s.size ≤ 1000000000000) :
    Calls Tryz.prog 27 #[.string s, .int .i64 a, .int .i64 b] w fun x w' => ∃ (t : ByteArray) (c : UInt8), x = .returned (.string t) ∧ t.data.toList = s.data.toList.set (pl a s.size) c ∧ s.data.toList[pl a s.size]? ≠ some c ∧ Below w.heap.size w w' := by
  obtain ⟨t1, t2, t3, t4, t5, t6, t7⟩ := tmod_round a s.size (by omega)
  obtain ⟨u1, u2, u3, u4, u5, u6, u7⟩ := tmod_round b 255 (by omega)
  have hpI : a % (s.size : Int) = ((pl a s.size : Nat) : Int) := by unfold pl; exact (Int.toNat_of_nonneg t2).symm
  rw [hpI] at t1 t3
  have hIs : pl a s.size < s.size := by omega
  obtain ⟨J, hJ⟩ : ∃ J : Nat, J = (b % 255).toNat := ⟨_, rfl⟩
  have hJ2 : b % 255 = (J : Int) := by rw [hJ]; exact (Int.toNat_of_nonneg u2).symm
  rw [hJ2] at u1 u3
  clear hJ hJ2 hpI u2 t2
  generalize pl a s.size = I at *
  obtain ⟨o, ho⟩ : ∃ o : UInt8, s[I]'hIs = o := ⟨_, rfl⟩
  have HO : Hid (s.data.toList[I]? = some o) := by show _ = _; rw [← ho]; exact Lib.data_getElem? s I hIs
  obtain ⟨c, hc⟩ : ∃ c : UInt8, c = UInt8.ofNat (o.toNat + 1 + J) := ⟨_, rfl⟩
  have ol := o.toNat_lt
  have hcn : c.toNat = (o.toNat + 1 + J) % 256 := by rw [hc, UInt8.toNat_ofNat']
  have hco : c ≠ o := fun e => by rw [e] at hcn; omega
  have hw8 : IntKind.u8.wrap ((o.toNat : Int) + 1 + (J : Int)) = (c.toNat : Int) := by rw [hcn]; simp [IntKind.wrap, IntKind.signed, IntKind.bits]
  have HCO := hide hco
  have hIi : (I : Int) < (s.size : Int) := by omega
  have hs0 : ¬ (s.size : Int) = 0 := by omega
  have hconv : ∀ w0 : World, (convert 101 9 (.slice (some ⟨w0.heap.size, 0, none⟩) 1 1)).run Tryz.prog (w0.alloc (.cells #[.int .u8 (c.toNat : Int)] 5)) = .ok (.string ⟨#[c]⟩) (w0.alloc (.cells #[.int .u8 (c.toNat : Int)] 5)) := fun w0 => by
    refine run_convert_bytes_back (P := Tryz.prog) _ 101 9 5 ⟨w0.heap.size, 0, none⟩ 1 [c] Tryz.underlying101 Tryz.underlying5 Tryz.underlying9 (fun j hj => ?_)
    match j, hj with
    | 0, _ => simp [Addr.add]
  clear hc hcn hco
  go_enter Tryz.func27, Tryz.ntmps27
  go_wp2_with fail
  have BW := hide (Below.refl w.heap.size w).drew
  have HD : Hid ((s.extract 0 I ++ ⟨#[c]⟩ ++ s.extract (I + 1) s.size).data.toList = s.data.toList.set I c) := by
    show _ = _
    rw [ba_app, ba_app, Lib.extract_data, Lib.extract_data, List.set_eq_take_append_cons_drop, if_pos (by rw [size_data]; exact hIs)]
    have : (s.data.toList.drop (I + 1)).take (s.size - (I + 1)) = s.data.toList.drop (I + 1) := List.take_of_length_le (by rw [List.length_drop, size_data]; omega)
    rw [this]
    simp
  have z1 : (s.extract 0 I).size = I := by rw [ByteArray.size_extract]; omega
  have z2 : (s.extract (I + 1) s.size).size = s.size - (I + 1) := by rw [ByteArray.size_extract]; omega
  have z3 : (⟨#[c]⟩ : ByteArray).size = 1 := rfl
  refine wp_region_held_drew (S := fun _ => True) (by kernel_rfl) trivial (fun hHeld => ?_)
  generalize w.drew = wd at *
  have hcv := hconv wd
  refine wpAnyH_take (i := 0) (v := (.string s)) rfl (by kernel_rfl) (by kernel_rfl) (by kernel_rfl) (fun _ _ _ h => h) (Or.inl ⟨by rfl, ?_⟩) (by assumption) ?_
  · intro w' hSw
    (try dsimp only at hSw)
    go_simp <;> first | exact i64_in (by omega) (by omega) | exact u32_in (by omega) (by omega) | exact u32_add _ _ | (rw [Int.tmod_eq_emod_of_nonneg (by omega)]; omega) | (rw [Int.tdiv_eq_ediv_of_nonneg (by omega)]; omega) | omega
  (try simp only [Act.put, List.setIfInBounds_toArray, List.set_cons_zero, List.set_cons_succ])
  refine wpAnyH_take (i := 1) (v := (.int .i64 I)) rfl (by kernel_rfl) (by kernel_rfl) (by kernel_rfl) (fun _ _ _ h => h) (Or.inl ⟨by rfl, ?_⟩) (by assumption) ?_
  · intro w' hSw
    (try dsimp only at hSw)
    go_simp <;> first | exact i64_in (by omega) (by omega) | exact u32_in (by omega) (by omega) | exact u32_add _ _ | (rw [Int.tmod_eq_emod_of_nonneg (by omega)]; omega) | (rw [Int.tdiv_eq_ediv_of_nonneg (by omega)]; omega) | omega
  (try simp only [Act.put, List.setIfInBounds_toArray, List.set_cons_zero, List.set_cons_succ])
  refine wpAnyH_take (i := 2) (v := (.string (s.extract 0 I))) rfl (by kernel_rfl) (by kernel_rfl) (by kernel_rfl) (fun _ _ _ h => h) (Or.inl ⟨by rfl, ?_⟩) (by assumption) ?_
  · intro w' hSw
    (try dsimp only at hSw)
    go_simp <;> first | exact i64_in (by omega) (by omega) | exact u32_in (by omega) (by omega) | exact u32_add _ _ | (rw [Int.tmod_eq_emod_of_nonneg (by omega)]; omega) | (rw [Int.tdiv_eq_ediv_of_nonneg (by omega)]; omega) | omega
  (try simp only [Act.put, List.setIfInBounds_toArray, List.set_cons_zero, List.set_cons_succ])
  refine wpAnyH_take (i := 3) (v := (.int .u8 c.toNat)) rfl (by kernel_rfl) (by kernel_rfl) (by kernel_rfl) (fun _ _ _ h => h) (Or.inl ⟨by rfl, ?_⟩) (by assumption) ?_
  · intro w' hSw
    (try dsimp only at hSw)
    go_simp <;> first | exact i64_in (by omega) (by omega) | exact u32_in (by omega) (by omega) | exact u32_add _ _ | (rw [Int.tmod_eq_emod_of_nonneg (by omega)]; omega) | (rw [Int.tdiv_eq_ediv_of_nonneg (by omega)]; omega) | omega
  (try simp only [Act.put, List.setIfInBounds_toArray, List.set_cons_zero, List.set_cons_succ])
  refine wpAnyH_take (i := 7) (v := (.string s)) rfl (by kernel_rfl) (by kernel_rfl) (by kernel_rfl) (fun _ _ _ h => h) (Or.inl ⟨by rfl, ?_⟩) (by assumption) ?_
  · intro w' hSw
    (try dsimp only at hSw)
    go_simp <;> first | exact i64_in (by omega) (by omega) | exact u32_in (by omega) (by omega) | exact u32_add _ _ | (rw [Int.tmod_eq_emod_of_nonneg (by omega)]; omega) | (rw [Int.tdiv_eq_ediv_of_nonneg (by omega)]; omega) | omega
  (try simp only [Act.put, List.setIfInBounds_toArray, List.set_cons_zero, List.set_cons_succ])
  refine wpAnyH_take (i := 8) (v := (.int .i64 I)) rfl (by kernel_rfl) (by kernel_rfl) (by kernel_rfl) (fun _ _ _ h => h) (Or.inl ⟨by rfl, ?_⟩) (by assumption) ?_
  · intro w' hSw
    (try dsimp only at hSw)
    go_simp <;> first | exact i64_in (by omega) (by omega) | exact u32_in (by omega) (by omega) | exact u32_add _ _ | (rw [Int.tmod_eq_emod_of_nonneg (by omega)]; omega) | (rw [Int.tdiv_eq_ediv_of_nonneg (by omega)]; omega) | omega
  (try simp only [Act.put, List.setIfInBounds_toArray, List.set_cons_zero, List.set_cons_succ])
  refine wpAnyH_take (i := 9) (v := (.int .i64 ((I + 1 : Nat) : Int))) rfl (by kernel_rfl) (by kernel_rfl) (by kernel_rfl) (fun _ _ _ h => h) (Or.inl ⟨by rfl, ?_⟩) (by assumption) ?_
  · intro w' hSw
    (try dsimp only at hSw)
    (go_simp; first | exact wrap64_in (by omega) (by omega) | (simp [IntKind.wrap, IntKind.signed, IntKind.bits]; omega))
  (try simp only [Act.put, List.setIfInBounds_toArray, List.set_cons_zero, List.set_cons_succ])
  refine wpAnyH_take (i := 10) (v := (.string (s.extract (I + 1) s.size))) rfl (by kernel_rfl) (by kernel_rfl) (by kernel_rfl) (fun _ _ _ h => h) (Or.inl ⟨by rfl, ?_⟩) (by assumption) ?_
  · intro w' hSw
    (try dsimp only at hSw)
    go_simp <;> first | exact i64_in (by omega) (by omega) | exact u32_in (by omega) (by omega) | exact u32_add _ _ | (rw [Int.tmod_eq_emod_of_nonneg (by omega)]; omega) | (rw [Int.tdiv_eq_ediv_of_nonneg (by omega)]; omega) | omega
  (try simp only [Act.put, List.setIfInBounds_toArray, List.set_cons_zero, List.set_cons_succ])
  refine wpAnyH_ready (rs := [4]) (by kernel_rfl) (by simp) ?_
  refine AllReadyH.cons rfl (fun K hK => ?_) AllReadyH.nil
  go_simp
  refine hK.out _ _ (trivial) (fun hHeld => ?_)
  clear hK
  (try simp only [Act.put, List.setIfInBounds_toArray, List.set_cons_zero, List.set_cons_succ])
  refine wpAnyH_ready (rs := [5]) (by kernel_rfl) (by simp) ?_
  refine AllReadyH.cons rfl (fun K hK => ?_) AllReadyH.nil
  go_simp
  refine hK.out _ _ (trivial) (fun hHeld => ?_)
  clear hK
  (try simp only [Act.put, List.setIfInBounds_toArray, List.set_cons_zero, List.set_cons_succ])
  generalize s.extract 0 I = L at *
  generalize s.extract (I + 1) s.size = R at *
  refine wpAnyH_take (i := 6) (v := (.string (L ++ ⟨#[c]⟩))) rfl (by kernel_rfl) (by kernel_rfl) (by kernel_rfl) (fun _ _ _ h => h) (Or.inl ⟨by rfl, ?_⟩) (by assumption) ?_
  · intro w' hSw
    (try dsimp only at hSw)
    (go_simp; first | omega | (rw [if_neg (by (try simp only [ByteArray.size_append, ByteArray.size_extract]); (try simp only [ByteArray.size]); (try simp); omega)]; rfl))
  (try simp only [Act.put, List.setIfInBounds_toArray, List.set_cons_zero, List.set_cons_succ])
  refine wpAnyH_take (i := 11) (v := (.string (L ++ ⟨#[c]⟩ ++ R))) rfl (by kernel_rfl) (by kernel_rfl) (by kernel_rfl) (fun _ _ _ h => h) (Or.inl ⟨by rfl, ?_⟩) (by assumption) ?_
  · intro w' hSw
    (try dsimp only at hSw)
    (go_simp; first | omega | (rw [if_neg (by (try simp only [ByteArray.size_append, ByteArray.size_extract]); (try simp only [ByteArray.size]); (try simp); omega)]; rfl))
  (try simp only [Act.put, List.setIfInBounds_toArray, List.set_cons_zero, List.set_cons_succ])
  refine wpAnyH_ready (rs := [12]) (by kernel_rfl) (by simp) ?_
  refine AllReadyH.cons rfl (fun K hK => ?_) AllReadyH.nil
  go_simp
  refine hK.out _ _ (trivial) (fun hHeld => ?_)
  clear hK
  (try simp only [Act.put, List.setIfInBounds_toArray, List.set_cons_zero, List.set_cons_succ])
  refine wpAnyH_done (by kernel_rfl) ?_ _
  clear hHeld
  go_wp2_with fail
  go_ret
  refine ⟨_, c, rfl, HD.out, ?_, BW.out.alloc BW.out.size _⟩
  rw [HO.out]
  intro e
  exact HCO.out (Option.some.inj e).symm
end Go.Proofs.YtfpalfpfijcpbaaGreatDoor
namespace Go.Proofs.YtfpalfpfijcpbaaGreatDoor
open Go.RowKit Go.Shelf
set_option maxHeartbeats 8000000 in
set_option maxRecDepth 100000 in
/-- read: how many of the three ways take a text -/
theorem readN_any (tx : ByteArray) (w : World) (htx : tx.size ≤ 1000000000000) (hT4 : Tab4 0 w) :
    Calls Tryz.prog 26 #[.string tx] w fun e w' => e = .returned (.int .i64 (rdCount tx : Int)) ∧ Below w.heap.size w w' := by
  have T4 : Hid (∀ w', Below w.heap.size w w' → Tab4 0 w') := fun w' h => hT4.below h hT4.lt
  have QM := hide (fun w' (h : Below w.heap.size w w') => parseMeta_any tx w' (by omega) (T4.out _ h))
  have QP := hide (fun w' (h : Below w.heap.size w w') => parsePointer_any tx w' (by omega) (T4.out _ h))
  have QF := hide (fun w' (h : Below w.heap.size w w') => parseManifest_any tx w' htx (T4.out _ h))
  have QG : Hid (∀ w', Below w.heap.size w w' → Calls Tryz.prog 22 #[.string tx] w' fun e w'' => ∃ (s : ByteArray) (n1 n2 : Int) (a : Option Addr) (m c : Nat) (t h : Int), e = .returned (.tuple #[.agg #[.string s, .int .i64 n1, .int .i64 n2, .slice a m c, .int .i64 t, .int .i64 h], .int .i64 (pmE tx)]) ∧ Below w'.heap.size w' w'') := fun w' hb => by
    refine Calls.mono (QF.out w' hb) ?_
    rintro e w'' ⟨c1, c2, b⟩
    by_cases hn : pmE tx = 0
    · obtain ⟨v, rfl, o⟩ := c1 hn
      obtain ⟨ao, g, cp, rfl, -⟩ := own_rows o
      exact ⟨_, _, _, _, _, _, _, _, by rw [hn], b⟩
    · exact ⟨_, _, _, _, _, _, _, _, c2 hn, b⟩
  clear QF
  have RC : Hid (rdCount tx = (if metaPE tx = 0 then 1 else 0) + (if pmE tx = 0 then 1 else 0) + (if ptrPE tx = 0 then 1 else 0)) := rfl
  unfold metaCells at QM
  generalize rdCount tx = C at *
  generalize metaPE tx = EM at *
  generalize pmE tx = EN at *
  generalize ptrPE tx = EP at *
  generalize metaPT tx = A0 at *
  generalize metaPV tx 1 = A1 at *
  generalize metaPV tx 2 = A2 at *
  generalize metaPV tx 3 = A3 at *
  generalize metaPV tx 4 = A4 at *
  generalize metaPV tx 5 = A5 at *
  generalize metaPV tx 6 = A6 at *
  generalize metaPV tx 7 = A7 at *
  generalize ptrPV tx 0 = P0 at *
  generalize ptrPV tx 1 = P1 at *
  generalize ptrPV tx 2 = P2 at *
  generalize ptrPV tx 3 = P3 at *
  clear hT4
  have B0 := hide (Below.refl w.heap.size w)
  by_cases hm : EM = 0 <;> by_cases hn : EN = 0 <;> by_cases hp : EP = 0
  all_goals
    simp only [hm, hn, hp, if_true, if_false] at RC
    go_enter Tryz.func26, Tryz.ntmps26
    go_wp2_with fail
    refine Calls.mono (QM.out w B0.out) ?_
    rintro x w1 ⟨rfl, b1⟩
    have B1 := hide (B0.out.trans (b1.mono B0.out.size))
    clear b1 QM
    go_wp2_with (go_at_call 12; refine Calls.mono (pnum_any _ _) ?_; rintro e w' ⟨rfl, rfl⟩)
    refine Calls.mono (QG.out _ (B1.out.alloc B1.out.size _)) ?_
    rintro x w3 ⟨F0, F1, F2, F3, F4, F5, F6, F7, rfl, b3⟩
    have B3 := hide ((B1.out.alloc B1.out.size _).trans (b3.mono (B1.out.alloc B1.out.size _).size))
    clear b3 B1 QG
    go_wp2_with (go_at_call 12; refine Calls.mono (pnum_any _ _) ?_; rintro e w' ⟨rfl, rfl⟩)
    refine Calls.mono (QP.out _ (B3.out.alloc B3.out.size _)) ?_
    rintro x w5 ⟨rfl, b5⟩
    have B5 := hide ((B3.out.alloc B3.out.size _).trans (b5.mono (B3.out.alloc B3.out.size _).size))
    clear b5 B3 QP
    go_wp2_with (go_at_call 12; refine Calls.mono (pnum_any _ _) ?_; rintro e w' ⟨rfl, rfl⟩)
    go_ret
    exact ⟨by rw [RC.out]; rfl, B5.out.alloc B5.out.size _⟩
end Go.Proofs.YtfpalfpfijcpbaaGreatDoor
