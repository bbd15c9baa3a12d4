import Derived.Test.YtgdibjnendjhnaaGreatDoorW9
import Derived.Test.YtgdibjnendjhnaaGreatDoorPlain2
import Derived.Lib.SmallJoins
namespace Go.Proofs.YtgdibjnendjhnaaGreatDoor
open Go.RowKit
theorem info9 : (Tryz.prog.info? 9).map (fun i => (i.zero, i.size, i.bytes)) = some (some (.string ByteArray.empty), 1, 16) := by kernel_rfl
theorem u8_of {c : UInt8} (e : (c.toNat : Int) = 47) : c = 47 := UInt8.toNat_inj.1 (by show c.toNat = 47; omega)
theorem unh {p : Prop} (h : Hid p) : p := h
theorem extract_list (s : ByteArray) (f i : Nat) : (s.extract f i).data.toList = (s.data.toList.drop f).take (i - f) := by
  rw [Lib.extract_data]
theorem texts_of {w wr : World} {ys : List ByteArray} {v : Value} (h : wr.ownsRow w.heap.size 9 1 v ys.length (ys.map Value.string)) (hpos : 0 < ys.length) : Texts 0 wr v ys.length := by
  rcases h.2 with ⟨_, h0⟩ | ⟨g, cap, cur, hv, hg, hblk, hn, hc, hcs, htake⟩
  · omega
  · refine Or.inr ⟨g, cap, Nat.zero_le _, by omega, hv, hn, ?_, ?_⟩
    · rcases Nat.lt_or_ge g wr.heap.size with h' | h'
      · exact h'
      · rw [Array.getElem?_eq_none h'] at hblk; simp at hblk
    · intro j hj
      subst hv
      refine ⟨ys[j], ?_⟩
      rw [h.cellAt j (by omega)]
      simp [hj]
set_option maxHeartbeats 4000000 in
set_option maxRecDepth 100000 in
theorem names_yes (s : ByteArray) (w : World) (he : s.toList.isEmpty = false) (h62 : s.size ≤ 4611686018427387904) (hp : isPath s.data.toList = true) :
    Calls Tryz.prog 75 #[.string s] w fun e w' => ∃ v, e = .returned (.tuple #[v, .bool true]) ∧ Texts 0 w' v (nNames s.data.toList) ∧ Below w.heap.size w w' := by
  obtain ⟨i0, hi, hz0, hz1, hz2⟩ := info_parts info9
  have hl0 : s.data.toList ≠ [] := by intro h; rw [empty_iff, h] at he; cases he
  have HP := hide hp
  have HL0 := hide hl0
  clear hp hl0
  go_enter Tryz.func75, Tryz.ntmps75
  go_wp2
  go_loopw [4, 5, 6] (fun v F I wr => ∃ (i f : Nat) (ys : List ByteArray) (ao : Option Addr) (cv : Nat), I = .int .i64 i ∧ F = .int .i64 f ∧ v = .slice ao ys.length cv ∧ wr.ownsRow w.heap.size 9 1 v ys.length (ys.map Value.string) ∧ Below w.heap.size w wr ∧ NR s.data.toList i f ys.length)
    (fun _ _ I _ => s.size + 1 - (intOf I).toNat)
  case atStart => exact ⟨0, 0, [], none, 0, rfl, rfl, rfl, World.ownsRow_nil _ _ _ _, Below.refl _ _, NR_start _ HL0.out⟩
  case round =>
    obtain ⟨i, f, ys, ao, cv, rfl, rfl, rfl, hown, hnx, hnr⟩ := hrel
    have HNR := hide hnr
    have hle := NR_le hnr
    have hlen : s.data.toList.length = s.size := by simp
    rw [hlen] at hle
    obtain ⟨hle1, hle2, hle3⟩ := hle
    clear hnr
    have HLEN := hide hlen
    clear hlen
    have hsize := hnx.size
    by_cases hin : i ≤ s.size
    · by_cases hie : i = s.size
      · have hq : ((i : Int) == (s.size : Int)) = true := by rw [beq_iff_eq]; omega
        have HIE := hide hie
        clear hie
        have hfi : (f : Int) ≤ (i : Int) := by omega
        have his : (i : Int) ≤ (s.size : Int) := by omega
        have hex : (s.extract f i).data.toList = (s.data.toList.drop f).take (i - f) := extract_list s f i
        have hsz : (s.extract f i).size ≤ 9223372036854775807 := by rw [ByteArray.size_extract]; omega
        cases hnm : nm ((s.data.toList.drop f).take (i - f))
        · have HN : Hid (∀ w', Calls Tryz.prog 93 #[.string (s.extract f i)] w' fun e w'' => e = .returned (.bool false) ∧ w' = w'') := fun w' => by
            have := named_any (s.extract f i) w' hsz
            rw [hex, hnm] at this
            exact this.mono fun e w'' h => ⟨h.1, h.2.symm⟩
          have hbad := NR_bad HNR.out (Or.inl (HIE.out.trans HLEN.out.symm)) (Or.inl hnm)
          rw [unh HP] at hbad
          cases hbad
        · have HN : Hid (∀ w', Calls Tryz.prog 93 #[.string (s.extract f i)] w' fun e w'' => e = .returned (.bool true) ∧ w' = w'') := fun w' => by
            have := named_any (s.extract f i) w' hsz
            rw [hex, hnm] at this
            exact this.mono fun e w'' h => ⟨h.1, h.2.symm⟩
          have h8 : ys.length ≠ 8 := fun e8 => by
            have hbad := NR_bad HNR.out (Or.inl (HIE.out.trans HLEN.out.symm)) (Or.inr e8)
            rw [unh HP] at hbad
            cases hbad
          have h8b : ((ys.length : Int) == 8) = false := by rw [beq_eq_false_iff_ne]; omega
          have HNM := hide hnm
          clear hex hsz hnm
          go_wp2_with (first
            | (go_at_call 93; refine Calls.mono (HN.out _) ?_; rintro e w' ⟨rfl, rfl⟩)
            | (at_builtin; refine wpList_append_own _ rfl _ _ 22 rfl w.heap.size 9 i0 (.string ByteArray.empty) 1 16 Tryz.underlying22 hi hz0 hz1 hz2 rfl (by decide) _ _ _ rfl (hown.alloc _) ⟨wr.heap.size, 0, none⟩ 1 1 [.string (s.extract f i)] rfl rfl (cell_one_new _ _ _) (fun x hx => by simp at hx; subst hx; rfl) (by unfold maxLen; omega) (by omega) (by simp; omega) ?_; intro v' w3 hown' hgrow3 hnil3))
          go_roundw
          case rel =>
            obtain ⟨g3, cap3, hv3⟩ := Joins.ownsRow_form hown' (by omega)
            exact ⟨i + 1, i + 1, ys ++ [s.extract f i], some ⟨g3, 0, none⟩, cap3, by go_num, by go_num, by rw [hv3]; simp, by simpa using hown', ((hnx.alloc hnx.size _).grown hgrow3 (by simp; omega) (fun j hj => (hown.lt j hj).1)), by simpa using NR_last HNR.out (HIE.out.trans HLEN.out.symm) HNM.out h8⟩
          case measure => simp [intOf]; omega

      · have hlt : i < s.size := by omega
        have hq : ((i : Int) == (s.size : Int)) = false := by rw [beq_eq_false_iff_ne]; omega
        have hlt' : i < s.data.toList.length := by rw [HLEN.out]; exact hlt
        have hget : s.data.toList[i] = s[i] := rfl
        by_cases h47 : s[i] = 47
        · have hb : ((s[i].toNat : Int) == 47) = true := by rw [h47]; rfl
          have H47 : Hid (s.data.toList[i] = 47) := h47
          clear h47 hie hget
          have hfi : (f : Int) ≤ (i : Int) := by omega
          have his : (i : Int) ≤ (s.size : Int) := by omega
          have hex : (s.extract f i).data.toList = (s.data.toList.drop f).take (i - f) := extract_list s f i
          have hsz : (s.extract f i).size ≤ 9223372036854775807 := by rw [ByteArray.size_extract]; omega
          cases hnm : nm ((s.data.toList.drop f).take (i - f))
          · have HN : Hid (∀ w', Calls Tryz.prog 93 #[.string (s.extract f i)] w' fun e w'' => e = .returned (.bool false) ∧ w' = w'') := fun w' => by
              have := named_any (s.extract f i) w' hsz
              rw [hex, hnm] at this
              exact this.mono fun e w'' h => ⟨h.1, h.2.symm⟩
            have hbad := NR_bad HNR.out (Or.inr ⟨hlt', H47.out⟩) (Or.inl hnm)
            rw [unh HP] at hbad
            cases hbad
          · have HN : Hid (∀ w', Calls Tryz.prog 93 #[.string (s.extract f i)] w' fun e w'' => e = .returned (.bool true) ∧ w' = w'') := fun w' => by
              have := named_any (s.extract f i) w' hsz
              rw [hex, hnm] at this
              exact this.mono fun e w'' h => ⟨h.1, h.2.symm⟩
            have h8 : ys.length ≠ 8 := fun e8 => by
              have hbad := NR_bad HNR.out (Or.inr ⟨hlt', H47.out⟩) (Or.inr e8)
              rw [unh HP] at hbad
              cases hbad
            have h8b : ((ys.length : Int) == 8) = false := by rw [beq_eq_false_iff_ne]; omega
            have HNM := hide hnm
            clear hex hsz hnm
            go_wp2_with (first
              | (go_at_call 93; refine Calls.mono (HN.out _) ?_; rintro e w' ⟨rfl, rfl⟩)
              | (at_builtin; refine wpList_append_own _ rfl _ _ 22 rfl w.heap.size 9 i0 (.string ByteArray.empty) 1 16 Tryz.underlying22 hi hz0 hz1 hz2 rfl (by decide) _ _ _ rfl (hown.alloc _) ⟨wr.heap.size, 0, none⟩ 1 1 [.string (s.extract f i)] rfl rfl (cell_one_new _ _ _) (fun x hx => by simp at hx; subst hx; rfl) (by unfold maxLen; omega) (by omega) (by simp; omega) ?_; intro v' w3 hown' hgrow3 hnil3))
            go_roundw
            case rel =>
              obtain ⟨g3, cap3, hv3⟩ := Joins.ownsRow_form hown' (by omega)
              exact ⟨i + 1, i + 1, ys ++ [s.extract f i], some ⟨g3, 0, none⟩, cap3, by go_num, by go_num, by rw [hv3]; simp, by simpa using hown', ((hnx.alloc hnx.size _).grown hgrow3 (by simp; omega) (fun j hj => (hown.lt j hj).1)), by simpa using NR_cut HNR.out hlt' H47.out HNM.out h8⟩
            case measure => simp [intOf]; omega

        · have hb : ((s[i].toNat : Int) == 47) = false := by
            rw [beq_eq_false_iff_ne]
            intro e
            exact h47 (u8_of e)
          have H47 : Hid (s.data.toList[i] ≠ 47) := h47
          clear h47 hie hget
          go_wp2
          go_roundw
          case rel => exact ⟨i + 1, f, ys, ao, cv, by go_num, rfl, rfl, hown, hnx, NR_skip HNR.out hlt' H47.out⟩
          case measure => simp [intOf]; omega
    · have hie : i = s.size + 1 := by omega
      have HE : Hid (i = s.data.toList.length + 1) := by rw [HLEN.out]; exact hie
      clear hie
      have hfin := NR_end (HE.out ▸ HNR.out)
      have HF := hide hfin
      have HT := hide (texts_of hown (by have := pcs_pos s.data.toList; rw [hfin.2]; omega))
      clear hfin
      go_wp2
      go_ret2
      refine ⟨_, rfl, ?_, hnx⟩
      have hn : nNames s.data.toList = ys.length := by unfold nNames; rw [if_neg HL0.out]; exact HF.out.2.symm
      rw [hn]
      exact HT.out
set_option maxHeartbeats 4000000 in
set_option maxRecDepth 100000 in
theorem names_no (s : ByteArray) (w : World) (he : s.toList.isEmpty = false) (h62 : s.size ≤ 4611686018427387904) (hp : isPath s.data.toList = false) :
    Calls Tryz.prog 75 #[.string s] w fun e w' => ∃ v, e = .returned (.tuple #[v, .bool false]) ∧ Below w.heap.size w w' := by
  obtain ⟨i0, hi, hz0, hz1, hz2⟩ := info_parts info9
  have hl0 : s.data.toList ≠ [] := by intro h; rw [empty_iff, h] at he; cases he
  have HP := hide hp
  have HL0 := hide hl0
  clear hp hl0
  go_enter Tryz.func75, Tryz.ntmps75
  go_wp2
  go_loopw [4, 5, 6] (fun v F I wr => ∃ (i f : Nat) (ys : List ByteArray) (ao : Option Addr) (cv : Nat), I = .int .i64 i ∧ F = .int .i64 f ∧ v = .slice ao ys.length cv ∧ wr.ownsRow w.heap.size 9 1 v ys.length (ys.map Value.string) ∧ Below w.heap.size w wr ∧ NR s.data.toList i f ys.length)
    (fun _ _ I _ => s.size + 1 - (intOf I).toNat)
  case atStart => exact ⟨0, 0, [], none, 0, rfl, rfl, rfl, World.ownsRow_nil _ _ _ _, Below.refl _ _, NR_start _ HL0.out⟩
  case round =>
    obtain ⟨i, f, ys, ao, cv, rfl, rfl, rfl, hown, hnx, hnr⟩ := hrel
    have HNR := hide hnr
    have hle := NR_le hnr
    have hlen : s.data.toList.length = s.size := by simp
    rw [hlen] at hle
    obtain ⟨hle1, hle2, hle3⟩ := hle
    clear hnr
    have HLEN := hide hlen
    clear hlen
    have hsize := hnx.size
    by_cases hin : i ≤ s.size
    · by_cases hie : i = s.size
      · have hq : ((i : Int) == (s.size : Int)) = true := by rw [beq_iff_eq]; omega
        have HIE := hide hie
        clear hie
        have hfi : (f : Int) ≤ (i : Int) := by omega
        have his : (i : Int) ≤ (s.size : Int) := by omega
        have hex : (s.extract f i).data.toList = (s.data.toList.drop f).take (i - f) := extract_list s f i
        have hsz : (s.extract f i).size ≤ 9223372036854775807 := by rw [ByteArray.size_extract]; omega
        cases hnm : nm ((s.data.toList.drop f).take (i - f))
        · have HN : Hid (∀ w', Calls Tryz.prog 93 #[.string (s.extract f i)] w' fun e w'' => e = .returned (.bool false) ∧ w' = w'') := fun w' => by
            have := named_any (s.extract f i) w' hsz
            rw [hex, hnm] at this
            exact this.mono fun e w'' h => ⟨h.1, h.2.symm⟩
          clear hex hsz hnm
          go_wp2_with (go_at_call 93; refine Calls.mono (HN.out _) ?_; rintro e w' ⟨rfl, rfl⟩)
          go_ret2
          exact ⟨_, rfl, hnx⟩
        · have HN : Hid (∀ w', Calls Tryz.prog 93 #[.string (s.extract f i)] w' fun e w'' => e = .returned (.bool true) ∧ w' = w'') := fun w' => by
            have := named_any (s.extract f i) w' hsz
            rw [hex, hnm] at this
            exact this.mono fun e w'' h => ⟨h.1, h.2.symm⟩
          have HNM := hide hnm
          clear hex hsz hnm
          by_cases h8 : ys.length = 8
          · have h8b : ((ys.length : Int) == 8) = true := by rw [beq_iff_eq]; omega
            clear h8
            go_wp2_with (go_at_call 93; refine Calls.mono (HN.out _) ?_; rintro e w' ⟨rfl, rfl⟩)
            go_ret2
            exact ⟨_, rfl, hnx⟩
          have h8b : ((ys.length : Int) == 8) = false := by rw [beq_eq_false_iff_ne]; omega
          have H8 := hide h8
          clear h8
          go_wp2_with (first
            | (go_at_call 93; refine Calls.mono (HN.out _) ?_; rintro e w' ⟨rfl, rfl⟩)
            | (at_builtin; refine wpList_append_own _ rfl _ _ 22 rfl w.heap.size 9 i0 (.string ByteArray.empty) 1 16 Tryz.underlying22 hi hz0 hz1 hz2 rfl (by decide) _ _ _ rfl (hown.alloc _) ⟨wr.heap.size, 0, none⟩ 1 1 [.string (s.extract f i)] rfl rfl (cell_one_new _ _ _) (fun x hx => by simp at hx; subst hx; rfl) (by unfold maxLen; omega) (by omega) (by simp; omega) ?_; intro v' w3 hown' hgrow3 hnil3))
          go_roundw
          case rel =>
            obtain ⟨g3, cap3, hv3⟩ := Joins.ownsRow_form hown' (by omega)
            exact ⟨i + 1, i + 1, ys ++ [s.extract f i], some ⟨g3, 0, none⟩, cap3, by go_num, by go_num, by rw [hv3]; simp, by simpa using hown', ((hnx.alloc hnx.size _).grown hgrow3 (by simp; omega) (fun j hj => (hown.lt j hj).1)), by simpa using NR_last HNR.out (HIE.out.trans HLEN.out.symm) HNM.out H8.out⟩
          case measure => simp [intOf]; omega

      · have hlt : i < s.size := by omega
        have hq : ((i : Int) == (s.size : Int)) = false := by rw [beq_eq_false_iff_ne]; omega
        have hlt' : i < s.data.toList.length := by rw [HLEN.out]; exact hlt
        have hget : s.data.toList[i] = s[i] := rfl
        by_cases h47 : s[i] = 47
        · have hb : ((s[i].toNat : Int) == 47) = true := by rw [h47]; rfl
          have H47 : Hid (s.data.toList[i] = 47) := h47
          clear h47 hie hget
          have hfi : (f : Int) ≤ (i : Int) := by omega
          have his : (i : Int) ≤ (s.size : Int) := by omega
          have hex : (s.extract f i).data.toList = (s.data.toList.drop f).take (i - f) := extract_list s f i
          have hsz : (s.extract f i).size ≤ 9223372036854775807 := by rw [ByteArray.size_extract]; omega
          cases hnm : nm ((s.data.toList.drop f).take (i - f))
          · have HN : Hid (∀ w', Calls Tryz.prog 93 #[.string (s.extract f i)] w' fun e w'' => e = .returned (.bool false) ∧ w' = w'') := fun w' => by
              have := named_any (s.extract f i) w' hsz
              rw [hex, hnm] at this
              exact this.mono fun e w'' h => ⟨h.1, h.2.symm⟩
            clear hex hsz hnm
            go_wp2_with (go_at_call 93; refine Calls.mono (HN.out _) ?_; rintro e w' ⟨rfl, rfl⟩)
            go_ret2
            exact ⟨_, rfl, hnx⟩
          · have HN : Hid (∀ w', Calls Tryz.prog 93 #[.string (s.extract f i)] w' fun e w'' => e = .returned (.bool true) ∧ w' = w'') := fun w' => by
              have := named_any (s.extract f i) w' hsz
              rw [hex, hnm] at this
              exact this.mono fun e w'' h => ⟨h.1, h.2.symm⟩
            have HNM := hide hnm
            clear hex hsz hnm
            by_cases h8 : ys.length = 8
            · have h8b : ((ys.length : Int) == 8) = true := by rw [beq_iff_eq]; omega
              clear h8
              go_wp2_with (go_at_call 93; refine Calls.mono (HN.out _) ?_; rintro e w' ⟨rfl, rfl⟩)
              go_ret2
              exact ⟨_, rfl, hnx⟩
            have h8b : ((ys.length : Int) == 8) = false := by rw [beq_eq_false_iff_ne]; omega
            have H8 := hide h8
            clear h8
            go_wp2_with (first
              | (go_at_call 93; refine Calls.mono (HN.out _) ?_; rintro e w' ⟨rfl, rfl⟩)
              | (at_builtin; refine wpList_append_own _ rfl _ _ 22 rfl w.heap.size 9 i0 (.string ByteArray.empty) 1 16 Tryz.underlying22 hi hz0 hz1 hz2 rfl (by decide) _ _ _ rfl (hown.alloc _) ⟨wr.heap.size, 0, none⟩ 1 1 [.string (s.extract f i)] rfl rfl (cell_one_new _ _ _) (fun x hx => by simp at hx; subst hx; rfl) (by unfold maxLen; omega) (by omega) (by simp; omega) ?_; intro v' w3 hown' hgrow3 hnil3))
            go_roundw
            case rel =>
              obtain ⟨g3, cap3, hv3⟩ := Joins.ownsRow_form hown' (by omega)
              exact ⟨i + 1, i + 1, ys ++ [s.extract f i], some ⟨g3, 0, none⟩, cap3, by go_num, by go_num, by rw [hv3]; simp, by simpa using hown', ((hnx.alloc hnx.size _).grown hgrow3 (by simp; omega) (fun j hj => (hown.lt j hj).1)), by simpa using NR_cut HNR.out hlt' H47.out HNM.out H8.out⟩
            case measure => simp [intOf]; omega

        · have hb : ((s[i].toNat : Int) == 47) = false := by
            rw [beq_eq_false_iff_ne]
            intro e
            exact h47 (u8_of e)
          have H47 : Hid (s.data.toList[i] ≠ 47) := h47
          clear h47 hie hget
          go_wp2
          go_roundw
          case rel => exact ⟨i + 1, f, ys, ao, cv, by go_num, rfl, rfl, hown, hnx, NR_skip HNR.out hlt' H47.out⟩
          case measure => simp [intOf]; omega
    · have hie : i = s.size + 1 := by omega
      have HE : Hid (i = s.data.toList.length + 1) := by rw [HLEN.out]; exact hie
      clear hie
      have hfin := NR_end (HE.out ▸ HNR.out)
      rw [HP.out] at hfin
      cases hfin.1
end Go.Proofs.YtgdibjnendjhnaaGreatDoor
