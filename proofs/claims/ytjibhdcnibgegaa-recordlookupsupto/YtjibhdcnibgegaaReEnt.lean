import Derived.Test.YtjibhdcnibgegaaRnRef
namespace Go.Proofs.Ytjibhdcnibgegaa
open Go.RowKit
def entS (w : Int) (h : ByteArray) (o : Int) : ByteArray := if (1 ≤ w ∧ w ≤ 16) ∧ (h.size : Int) = w ∧ (0 ≤ o ∧ o < 4294967296) then h ++ strOf (dig 4 o.toNat) else ⟨#[]⟩
def entE (w : Int) (h : ByteArray) (o : Int) : Int := if 1 ≤ w ∧ w ≤ 16 then if (h.size : Int) = w then if 0 ≤ o ∧ o < 4294967296 then 0 else 31 else 34 else 30
def entR (w : Int) (h : ByteArray) (o : Int) : Ending := .returned (.tuple #[.string (entS w h o), .int .i64 (entE w h o)])
theorem ent_width {w : Int} {h : ByteArray} {o : Int} (hw : ¬ (1 ≤ w ∧ w ≤ 16)) : Ending.returned (.tuple #[.string ⟨#[]⟩, .int .i64 30]) = entR w h o := by
  unfold entR entS entE; rw [if_neg (fun k => hw k.1), if_neg hw]
theorem ent_hash {w : Int} {h : ByteArray} {o : Int} (hw : 1 ≤ w ∧ w ≤ 16) (hh : ¬ (h.size : Int) = w) : Ending.returned (.tuple #[.string ⟨#[]⟩, .int .i64 34]) = entR w h o := by
  unfold entR entS entE; rw [if_neg (fun k => hh k.2.1), if_pos hw, if_neg hh]
theorem ent_num {w : Int} {h : ByteArray} {o : Int} (hw : 1 ≤ w ∧ w ≤ 16) (hh : (h.size : Int) = w) (ho : ¬ (0 ≤ o ∧ o < 4294967296)) : Ending.returned (.tuple #[.string ⟨#[]⟩, .int .i64 31]) = entR w h o := by
  unfold entR entS entE; rw [if_neg (fun k => ho k.2.2), if_pos hw, if_pos hh, if_neg ho]
theorem ent_good {w : Int} {h : ByteArray} {o : Int} (hw : 1 ≤ w ∧ w ≤ 16) (hh : (h.size : Int) = w) (ho : 0 ≤ o ∧ o < 4294967296) : Ending.returned (.tuple #[.string (h ++ strOf (dig 4 o.toNat)), .int .i64 0]) = entR w h o := by
  unfold entR entS entE; rw [if_pos ⟨hw, hh, ho⟩, if_pos hw, if_pos hh, if_pos ho]
theorem num4_good {o : Int} (ho : 0 ≤ o ∧ o < 4294967296) : numS o 4 = strOf (dig 4 o.toNat) ∧ numE o 4 = 0 := by
  unfold numS numE
  constructor
  · rw [if_pos ⟨by omega, by omega, ho.1, by simpa using ho.2⟩]; rfl
  · rw [if_pos (by omega), if_pos ⟨ho.1, by simpa using ho.2⟩]
theorem num4_bad {o : Int} (ho : ¬ (0 ≤ o ∧ o < 4294967296)) : numS o 4 = ⟨#[]⟩ ∧ numE o 4 = 31 := by
  unfold numS numE
  constructor
  · rw [if_neg (fun k => ho ⟨k.2.2.1, by simpa using k.2.2.2⟩)]
  · rw [if_pos (by omega), if_neg (fun k => ho ⟨k.1, by simpa using k.2⟩)]
set_option maxRecDepth 100000 in
theorem isHashWidth_any (n : Int) (w : World) : Calls Try.prog 35 #[.int .i64 n] w fun e w' => e = .returned (.bool (decide (1 ≤ n ∧ n ≤ 16))) ∧ w = w' := by
  go_enter Try.func35, Try.ntmps35
  go_wp2
  all_goals go_ret
  all_goals refine ⟨ret_bool ?_, rfl⟩
  all_goals (symm; simp; omega)
set_option maxHeartbeats 2000000 in
set_option maxRecDepth 100000 in
theorem entry_any (n : Int) (h : ByteArray) (o : Int) (hh : h.size ≤ 140737488351232) (ho0 : -9223372036854775808 ≤ o) (ho1 : o ≤ 9223372036854775807) (w : World) :
    Calls Try.prog 14 #[.int .i64 n, .string h, .int .i64 o] w fun e w' => e = entR n h o ∧ Below w.heap.size w w' := by
  by_cases hw : 1 ≤ n ∧ n ≤ 16
  · have hd : decide (1 ≤ n ∧ n ≤ 16) = true := decide_eq_true hw
    by_cases hz : (h.size : Int) = n
    · have C := number_any o 4 ho0 ho1 w
      have hq : ((h.size : Int) != n) = false := by rw [hz]; simp
      by_cases ho : 0 ≤ o ∧ o < 4294967296
      · have HF := hide (ent_good hw hz ho)
        rw [(num4_good ho).1, (num4_good ho).2] at C
        have HC := hide C
        have hl : (strOf (dig 4 o.toNat)).size = 4 := by rw [strOf_size, dig_len]
        generalize strOf (dig 4 o.toNat) = D at *
        clear C hz hw
        go_enter Try.func14, Try.ntmps14
        go_wp2_with fail
        refine Calls.mono (isHashWidth_any _ _) ?_
        rintro e w' ⟨rfl, rfl⟩
        go_wp2_with fail
        refine Calls.mono HC.out ?_
        rintro e w1 ⟨rfl, hb1⟩
        go_wp2_with fail
        go_ret2
        exact ⟨HF.out, hb1⟩
      · have HF := hide (ent_num hw hz ho)
        rw [(num4_bad ho).1, (num4_bad ho).2] at C
        have HC := hide C
        clear C hz hw
        go_enter Try.func14, Try.ntmps14
        go_wp2_with fail
        refine Calls.mono (isHashWidth_any _ _) ?_
        rintro e w' ⟨rfl, rfl⟩
        go_wp2_with fail
        refine Calls.mono HC.out ?_
        rintro e w1 ⟨rfl, hb1⟩
        go_wp2_with fail
        go_ret2
        exact ⟨HF.out, hb1⟩
    · have HF := hide (ent_hash (o := o) hw hz)
      have hq : ((h.size : Int) != n) = true := by simpa using hz
      clear hz hw
      go_enter Try.func14, Try.ntmps14
      go_wp2_with fail
      refine Calls.mono (isHashWidth_any _ _) ?_
      rintro e w' ⟨rfl, rfl⟩
      go_wp2_with fail
      go_ret2
      exact ⟨HF.out, Below.refl _ _⟩
  · have hd : decide (1 ≤ n ∧ n ≤ 16) = false := decide_eq_false hw
    have HF := hide (ent_width (h := h) (o := o) hw)
    go_enter Try.func14, Try.ntmps14
    go_wp2_with fail
    refine Calls.mono (isHashWidth_any _ _) ?_
    rintro e w' ⟨rfl, rfl⟩
    go_wp2_with fail
    go_ret2
    exact ⟨HF.out, Below.refl _ _⟩
set_option maxHeartbeats 2000000 in
set_option maxRecDepth 100000 in
theorem rentry_any (n : Int) (h : ByteArray) (o : Int) (hh : h.size ≤ 140737488351232) (ho0 : -9223372036854775808 ≤ o) (ho1 : o ≤ 9223372036854775807) (w : World) :
    Calls Try.prog 15 #[.int .i64 n, .string h, .int .i64 o] w fun e w' => e = entR n h o ∧ Below w.heap.size w w' := by
  by_cases hw : 1 ≤ n ∧ n ≤ 16
  · by_cases hz : (h.size : Int) = n
    · have hq : ((h.size : Int) != n) = false := by rw [hz]; simp
      by_cases ho : 0 ≤ o ∧ o < 4294967296
      · have HF := hide (ent_good hw hz ho)
        have C : Calls Try.prog 32 #[.int .i64 o, .int .i64 4] w fun e w' => e = .returned (.string (strOf (dig 4 o.toNat))) ∧ Below w.heap.size w w' := by
          have := digits_any o.toNat 4 (by omega) (by omega) w
          rwa [Int.toNat_of_nonneg ho.1] at this
        have HC := hide C
        have hl : (strOf (dig 4 o.toNat)).size = 4 := by rw [strOf_size, dig_len]
        generalize strOf (dig 4 o.toNat) = D at *
        clear C hz
        go_enter Try.func15, Try.ntmps15
        go_wp2_with fail
        refine Calls.mono HC.out ?_
        rintro e w1 ⟨rfl, hb1⟩
        go_wp2_with fail
        go_ret2
        exact ⟨HF.out, hb1⟩
      · have HF := hide (ent_num hw hz ho)
        clear hz
        go_enter Try.func15, Try.ntmps15
        go_wp2_with fail
        all_goals (go_ret2; exact ⟨HF.out, Below.refl _ _⟩)
    · have HF := hide (ent_hash (o := o) hw hz)
      have hq : ((h.size : Int) != n) = true := by simpa using hz
      clear hz
      go_enter Try.func15, Try.ntmps15
      go_wp2_with fail
      go_ret2
      exact ⟨HF.out, Below.refl _ _⟩
  · have HF := hide (ent_width (h := h) (o := o) hw)
    go_enter Try.func15, Try.ntmps15
    go_wp2_with fail
    all_goals (go_ret2; exact ⟨HF.out, Below.refl _ _⟩)
end Go.Proofs.Ytjibhdcnibgegaa
