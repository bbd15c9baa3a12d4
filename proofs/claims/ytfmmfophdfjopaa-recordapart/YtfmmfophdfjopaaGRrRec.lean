import Derived.Test.YtfmmfophdfjopaaGRzPlain
namespace Go.Proofs.Ytfmmfophdfjopaa
open Go.RowKit
def inB (d : ByteArray) (a : Int) : Prop := 0 ≤ a ∧ a ≤ (d.size : Int)
def rrE (d : ByteArray) (a : Int) : Int := if 0 ≤ a ∧ a ≤ (d.size : Int) then if errL (spL d a.toNat) = 0 then 0 else 39 else 1
def rrL (d : ByteArray) (a : Int) : List KV := if (0 ≤ a ∧ a ≤ (d.size : Int)) ∧ errL (spL d a.toNat) = 0 then spL d a.toNat else []
def rrN (d : ByteArray) (a : Int) : Int := if (0 ≤ a ∧ a ≤ (d.size : Int)) ∧ errL (spL d a.toNat) = 0 then (spN d a.toNat : Int) else 0
theorem rr_arg {d : ByteArray} {a : Int} (h : ¬ (0 ≤ a ∧ a ≤ (d.size : Int))) : rrE d a = 1 ∧ rrL d a = [] ∧ rrN d a = 0 := by
  unfold rrE rrL rrN; rw [if_neg h, if_neg (fun k => h k.1), if_neg (fun k => h k.1)]; exact ⟨rfl, rfl, rfl⟩
theorem rr_bad {d : ByteArray} {a : Int} (h : 0 ≤ a ∧ a ≤ (d.size : Int)) (he : ¬ errL (spL d a.toNat) = 0) : rrE d a = 39 ∧ rrL d a = [] ∧ rrN d a = 0 := by
  unfold rrE rrL rrN; rw [if_pos h, if_neg he, if_neg (fun k => he k.2), if_neg (fun k => he k.2)]; exact ⟨rfl, rfl, rfl⟩
theorem rr_good {d : ByteArray} {a : Int} (h : 0 ≤ a ∧ a ≤ (d.size : Int)) (he : errL (spL d a.toNat) = 0) : rrE d a = 0 ∧ rrL d a = spL d a.toNat ∧ rrN d a = (spN d a.toNat : Int) := by
  unfold rrE rrL rrN; rw [if_pos h, if_pos he, if_pos ⟨h, he⟩, if_pos ⟨h, he⟩]; exact ⟨rfl, rfl, rfl⟩
theorem own_pairs {w : World} {base : Nat} {v : Value} {ps : List KV} (h : w.ownsRow base 55 2 v ps.length (pc ps)) : ∃ ao g cap, v = .slice ao ps.length cap ∧ (0 < ps.length → ao = some ⟨g, 0, none⟩) ∧ (0 < ps.length → g < w.heap.size) ∧ LiesP g 0 w ps := by
  rcases h.2 with ⟨rfl, h0⟩ | ⟨g, cap, cur, rfl, hg, hblk, _⟩
  · rw [h0]
    exact ⟨none, 0, 0, rfl, fun k => by omega, fun k => by omega, fun i hi => by omega⟩
  · exact ⟨some ⟨g, 0, none⟩, g, cap, rfl, fun _ => rfl, fun _ => row_lt h, row_lies (qs := []) (by rw [List.append_nil]; exact h) (Nat.le_refl _)⟩
theorem spL_len (d : ByteArray) (p : Nat) : (spL d p).length < 65536 := by
  cases h : spellAt d p with
  | none => rw [(spL_none h).1]; simp
  | some x => obtain ⟨l, q⟩ := x; rw [(spL_some h).1]; exact (spell_rec h).2.2.1
set_option maxHeartbeats 2000000 in
set_option maxRecDepth 100000 in
/-- ReadRecord -/
theorem readRecord_any (d : ByteArray) (a : Int) (hd : d.size ≤ 140737488351232) (w : World) :
    Calls Try.prog 12 #[.string d, .int .i64 a] w fun e w' => ∃ v, e = .returned (.tuple #[v, .int .i64 (rrN d a), .int .i64 (rrE d a)]) ∧ w'.ownsRow w.heap.size 55 2 v (rrL d a).length (pc (rrL d a)) ∧ Below w.heap.size w w' := by
  by_cases hin : 0 ≤ a ∧ a ≤ (d.size : Int)
  · obtain ⟨p, rfl⟩ : ∃ p : Nat, a = (p : Int) := ⟨a.toNat, by omega⟩
    have R := hide (read_any d p hd (by omega) w)
    have hsl := spL_len d p
    by_cases he : errL (spL d p) = 0
    · obtain ⟨e1, e2, e3⟩ := rr_good hin (by rwa [Int.toNat_natCast])
      rw [e1, e2, e3, Int.toNat_natCast]
      clear e1 e2 e3
      have HE := hide he
      clear he
      generalize spN d p = NN at *
      generalize spL d p = L at *
      go_enter Try.func12, Try.ntmps12
      go_wp2_with fail
      refine Calls.mono R.out ?_
      rintro e w1 ⟨v, rfl, o1, hb1⟩
      obtain ⟨ao, g, cap, rfl, h1, h2, h3⟩ := own_pairs o1
      have W := weigh_any ao g 0 cap L w1 h1 h2 (by omega) h3
      rw [HE.out] at W
      have HW := hide W
      have O1 := hide o1
      have HB := hide hb1
      have s1 := hb1.size
      clear W o1 hb1 h1 h2 h3
      go_wp2_with fail
      refine Calls.mono HW.out ?_
      rintro e w2 ⟨rfl, hb2⟩
      have O2 := hide (own_below O1.out hb2)
      have B2 := hide (HB.out.trans (hb2.mono s1))
      clear hb2
      go_wp2_with fail
      go_ret3
      exact ⟨_, rfl, O2.out, B2.out⟩
    · obtain ⟨e1, e2, e3⟩ := rr_bad hin (by rwa [Int.toNat_natCast])
      rw [e1, e2, e3]
      clear e1 e2 e3
      have hne : (errL (spL d p) != 0) = true := by simpa using he
      clear he
      generalize spN d p = NN at *
      generalize spL d p = L at *
      go_enter Try.func12, Try.ntmps12
      go_wp2_with fail
      refine Calls.mono R.out ?_
      rintro e w1 ⟨v, rfl, o1, hb1⟩
      obtain ⟨ao, g, cap, rfl, h1, h2, h3⟩ := own_pairs o1
      have HW := hide (weigh_any ao g 0 cap L w1 h1 h2 (by omega) h3)
      have HB := hide hb1
      have s1 := hb1.size
      clear o1 hb1 h1 h2 h3
      generalize errL L = E at *
      generalize wSize L = WS at *
      go_wp2_with fail
      refine Calls.mono HW.out ?_
      rintro e w2 ⟨rfl, hb2⟩
      have B2 := hide (HB.out.trans (hb2.mono s1))
      clear hb2
      go_wp2_with fail
      go_ret3
      exact ⟨_, rfl, World.ownsRow_nil _ _ _ _, B2.out⟩
  · obtain ⟨e1, e2, e3⟩ := rr_arg hin
    rw [e1, e2, e3]
    clear e1 e2 e3
    by_cases hneg : a < 0
    · go_enter Try.func12, Try.ntmps12
      go_wp2_with fail
      go_ret3
      exact ⟨_, rfl, World.ownsRow_nil _ _ _ _, Below.refl _ _⟩
    · have hbig : (d.size : Int) < a := by omega
      clear hin
      go_enter Try.func12, Try.ntmps12
      go_wp2_with fail
      go_ret3
      exact ⟨_, rfl, World.ownsRow_nil _ _ _ _, Below.refl _ _⟩
end Go.Proofs.Ytfmmfophdfjopaa
namespace Go.Proofs.Ytfmmfophdfjopaa
open Go.RowKit
/-- where what is spelled ends; -1: too few bytes -/
def spZ (d : ByteArray) (p : Nat) : Int := match spellAt d p with | none => -1 | some (_, q) => (q : Int)
theorem spZ_some {d : ByteArray} {p : Nat} {l : List KV} {q : Nat} (h : spellAt d p = some (l, q)) : spZ d p = (q : Int) := by unfold spZ; rw [h]
theorem spZ_none {d : ByteArray} {p : Nat} (h : spellAt d p = none) : spZ d p = -1 := by unfold spZ; rw [h]
theorem cell_XY (w : World) (X Y : ByteArray) : ∀ j u, (pc [(X, Y)])[j]? = some u → (w.drew.alloc (.cells #[.string X, .string Y] 55)).cell? ((⟨w.heap.size, 0, none⟩ : Addr).add j) = some u := cell_pair w.drew (X, Y)
theorem len_XY (X Y : ByteArray) : (pc [(X, Y)]).length = 1 * 2 := rfl
end Go.Proofs.Ytfmmfophdfjopaa
namespace Go.Proofs.Ytfmmfophdfjopaa
open Go.RowKit
end Go.Proofs.Ytfmmfophdfjopaa
namespace Go.Proofs.Ytfmmfophdfjopaa
open Go.RowKit
def entS (w : Int) (h : ByteArray) (o : Int) : ByteArray := if (1 ≤ w ∧ w ≤ 16) ∧ (h.size : Int) = w ∧ (0 ≤ o ∧ o < 4294967296) then h ++ strOf (dig 4 o.toNat) else ⟨#[]⟩
def entE (w : Int) (h : ByteArray) (o : Int) : Int := if 1 ≤ w ∧ w ≤ 16 then if (h.size : Int) = w then if 0 ≤ o ∧ o < 4294967296 then 0 else 31 else 34 else 30
def entR (w : Int) (h : ByteArray) (o : Int) : Ending := .returned (.tuple #[.string (entS w h o), .int .i64 (entE w h o)])
theorem ent_width {w : Int} {h : ByteArray} {o : Int} (hw : ¬ (1 ≤ w ∧ w ≤ 16)) : Ending.returned (.tuple #[.string ⟨#[]⟩, .int .i64 30]) = entR w h o := by
  unfold entR entS entE; rw [if_neg (fun k => hw k.1), if_neg hw]
theorem ent_hash {w : Int} {h : ByteArray} {o : Int} (hw : 1 ≤ w ∧ w ≤ 16) (hh : ¬ (h.size : Int) = w) : Ending.returned (.tuple #[.string ⟨#[]⟩, .int .i64 34]) = entR w h o := by
  unfold entR entS entE; rw [if_neg (fun k => hh k.2.1), if_pos hw, if_neg hh]
theorem ent_num {w : Int} {h : ByteArray} {o : Int} (hw : 1 ≤ w ∧ w ≤ 16) (hh : (h.size : Int) = w) (ho : ¬ (0 ≤ o ∧ o < 4294967296)) : Ending.returned (.tuple #[.string ⟨#[]⟩, .int .i64 31]) = entR w h o := by
  unfold entR entS entE; rw [if_neg (fun k => ho k.2.2), if_pos hw, if_pos hh, if_neg ho]
theorem ent_good {w : Int} {h : ByteArray} {o : Int} (hw : 1 ≤ w ∧ w ≤ 16) (hh : (h.size : Int) = w) (ho : 0 ≤ o ∧ o < 4294967296) : Ending.returned (.tuple #[.string (h ++ strOf (dig 4 o.toNat)), .int .i64 0]) = entR w h o := by
  unfold entR entS entE; rw [if_pos ⟨hw, hh, ho⟩, if_pos hw, if_pos hh, if_pos ho]
theorem num4_good {o : Int} (ho : 0 ≤ o ∧ o < 4294967296) : numS o 4 = strOf (dig 4 o.toNat) ∧ numE o 4 = 0 := by
  unfold numS numE
  constructor
  · rw [if_pos ⟨by omega, by omega, ho.1, by simpa using ho.2⟩]; rfl
  · rw [if_pos (by omega), if_pos ⟨ho.1, by simpa using ho.2⟩]
theorem num4_bad {o : Int} (ho : ¬ (0 ≤ o ∧ o < 4294967296)) : numS o 4 = ⟨#[]⟩ ∧ numE o 4 = 31 := by
  unfold numS numE
  constructor
  · rw [if_neg (fun k => ho ⟨k.2.2.1, by simpa using k.2.2.2⟩)]
  · rw [if_pos (by omega), if_neg (fun k => ho ⟨k.1, by simpa using k.2⟩)]
set_option maxRecDepth 100000 in
theorem isHashWidth_any (n : Int) (w : World) : Calls Try.prog 29 #[.int .i64 n] w fun e w' => e = .returned (.bool (decide (1 ≤ n ∧ n ≤ 16))) ∧ w = w' := by
  go_enter Try.func29, Try.ntmps29
  go_wp2
  all_goals go_ret
  all_goals refine ⟨ret_bool ?_, rfl⟩
  all_goals (symm; simp; omega)
end Go.Proofs.Ytfmmfophdfjopaa
namespace Go.Proofs.Ytfmmfophdfjopaa
open Go.RowKit
/-- what both ReadEntries answer -/
def rdeOk (m : Int) (x : ByteArray) (i : Int) : Prop := (1 ≤ m ∧ m ≤ 16) ∧ x.size % (m.toNat + 4) = 0 ∧ 0 ≤ i ∧ i.toNat < x.size / (m.toNat + 4)
instance (m : Int) (x : ByteArray) (i : Int) : Decidable (rdeOk m x i) := by unfold rdeOk; exact inferInstance
def rdeH (m : Nat) (x : ByteArray) (i : Nat) : ByteArray := x.extract (i * (m + 4)) (i * (m + 4) + m)
def rdeO (m : Nat) (x : ByteArray) (i : Nat) : Nat := val ((x.data.toList.drop (i * (m + 4) + m)).take 4)
def rdeS (m : Int) (x : ByteArray) (i : Int) : ByteArray := if rdeOk m x i then rdeH m.toNat x i.toNat else ⟨#[]⟩
def rdeV (m : Int) (x : ByteArray) (i : Int) : Int := if rdeOk m x i then (rdeO m.toNat x i.toNat : Int) else 0
def rdeE (m : Int) (x : ByteArray) (i : Int) : Int := if 1 ≤ m ∧ m ≤ 16 then if x.size % (m.toNat + 4) = 0 then if 0 ≤ i ∧ i.toNat < x.size / (m.toNat + 4) then 0 else 1 else 38 else 30
def rdeR (m : Int) (x : ByteArray) (i : Int) : Ending := .returned (.tuple #[.string (rdeS m x i), .int .i64 (rdeV m x i), .int .i64 (rdeE m x i)])
theorem rde_width {m : Int} {x : ByteArray} {i : Int} (h : ¬ (1 ≤ m ∧ m ≤ 16)) : Ending.returned (.tuple #[.string ⟨#[]⟩, .int .i64 0, .int .i64 30]) = rdeR m x i := by
  unfold rdeR rdeS rdeV rdeE; rw [if_neg (fun k => h k.1), if_neg (fun k => h k.1), if_neg h]
theorem rde_index {m : Int} {x : ByteArray} {i : Int} (h : 1 ≤ m ∧ m ≤ 16) (hx : ¬ x.size % (m.toNat + 4) = 0) : Ending.returned (.tuple #[.string ⟨#[]⟩, .int .i64 0, .int .i64 38]) = rdeR m x i := by
  unfold rdeR rdeS rdeV rdeE; rw [if_neg (fun k => hx k.2.1), if_neg (fun k => hx k.2.1), if_pos h, if_neg hx]
theorem rde_arg {m : Int} {x : ByteArray} {i : Int} (h : 1 ≤ m ∧ m ≤ 16) (hx : x.size % (m.toNat + 4) = 0) (hi : ¬ (0 ≤ i ∧ i.toNat < x.size / (m.toNat + 4))) : Ending.returned (.tuple #[.string ⟨#[]⟩, .int .i64 0, .int .i64 1]) = rdeR m x i := by
  unfold rdeR rdeS rdeV rdeE; rw [if_neg (fun k => hi k.2.2), if_neg (fun k => hi k.2.2), if_pos h, if_pos hx, if_neg hi]
theorem rde_good {m : Int} {x : ByteArray} {i : Int} (h : 1 ≤ m ∧ m ≤ 16) (hx : x.size % (m.toNat + 4) = 0) (hi : 0 ≤ i ∧ i.toNat < x.size / (m.toNat + 4)) : Ending.returned (.tuple #[.string (rdeH m.toNat x i.toNat), .int .i64 (rdeO m.toNat x i.toNat : Int), .int .i64 0]) = rdeR m x i := by
  unfold rdeR rdeS rdeV rdeE; rw [if_pos ⟨h, hx, hi⟩, if_pos ⟨h, hx, hi⟩, if_pos h, if_pos hx, if_pos hi]
theorem ext_ext (x : ByteArray) (p q m : Nat) (h : p + m ≤ q) : (x.extract p q).extract 0 m = x.extract p (p + m) := by
  apply ByteArray.ext
  rw [ByteArray.data_extract, ByteArray.data_extract, ByteArray.data_extract, Array.extract_extract]
  simp [Nat.min_eq_left h]
theorem ext_tail (x : ByteArray) (p m : Nat) : ((x.extract p (p + m + 4)).extract m (m + 4)).data.toList = (x.data.toList.drop (p + m)).take 4 := by
  rw [slice_str, slice_str, show m + 4 - m = 4 by omega, show p + m + 4 - p = m + 4 by omega, List.drop_take, List.drop_drop, List.take_take]
  congr 1
  omega
theorem in_index {x : ByteArray} {m i : Nat} (hi : i < x.size / (m + 4)) : i * (m + 4) + m + 4 ≤ x.size := by
  have h1 := Nat.div_mul_le_self x.size (m + 4)
  have h2 : (i + 1) * (m + 4) ≤ x.size / (m + 4) * (m + 4) := Nat.mul_le_mul_right _ hi
  rw [Nat.succ_mul] at h2
  omega
set_option maxHeartbeats 2000000 in
set_option maxRecDepth 100000 in
set_option linter.unusedSimpArgs false in
theorem entryAt_any (m i : Nat) (x : ByteArray) (hm1 : 1 ≤ m) (hm : m ≤ 16) (hx : x.size ≤ 140737488351232) (hi : i < x.size / (m + 4)) (w : World) :
    Calls Try.prog 35 #[.int .i64 (m : Int), .string x, .int .i64 (i : Int)] w fun e w' => e = .returned (.agg #[.string (rdeH m x i), .int .i64 (rdeO m x i : Int)]) ∧ Below w.heap.size w w' := by
  have hin := in_index hi
  have hi2 : i ≤ 140737488351232 := Nat.le_trans (Nat.le_of_lt hi) (Nat.le_trans (Nat.div_le_self _ _) hx)
  obtain ⟨p, hp⟩ : ∃ p, p = i * (m + 4) := ⟨_, rfl⟩
  have e1 : (i : Int) * ((m : Int) + 4) = (p : Int) := by rw [hp]; push_cast; rfl
  have e2 : ((i : Int) + 1) * ((m : Int) + 4) = (p : Int) + m + 4 := by rw [Int.add_mul, e1]; omega
  rw [← hp] at hin
  have hC := fun w' => take32_any ((x.extract p (p + m + 4)).extract m (m + 4)) (by simp; omega) w'
  rw [ext_tail x p m] at hC
  have hO : val ((x.data.toList.drop (p + m)).take 4) < 4294967296 := Nat.lt_of_lt_of_le (val_lt _) (Nat.pow_le_pow_right (show 256 > 0 by omega) (show ((x.data.toList.drop (p + m)).take 4).length ≤ 4 by rw [List.length_take]; omega))
  have hH : rdeH m x i = (x.extract p (p + m + 4)).extract 0 m := by rw [ext_ext _ _ _ _ (by omega), hp]; rfl
  have hV : rdeO m x i = val ((x.data.toList.drop (p + m)).take 4) := by rw [hp]; rfl
  rw [hH, hV]
  have hsz : (x.extract p (p + m + 4)).size = m + 4 := by simp; omega
  have HC := hide hC
  clear hC hH hV hp
  generalize val ((x.data.toList.drop (p + m)).take 4) = V at *
  go_enter Try.func35, Try.ntmps35
  go_wp2_with fail
  refine wp_region_held_drew (S := fun _ => True) (by kernel_rfl) trivial (fun hHeld => ?_)
  refine wpAnyH_take (i := 0) (v := (.string (x.extract p (p + m + 4)))) rfl (by kernel_rfl) (by kernel_rfl) (by kernel_rfl) (fun _ _ _ h => h) (Or.inl ⟨by rfl, ?_⟩) (by assumption) ?_
  · intro w' hSw
    (try dsimp only at hSw)
    go_simp <;> first | exact i64_in (by omega) (by omega) | exact u32_in (by omega) (by omega) | exact u32_add _ _ | (rw [Int.tmod_eq_emod_of_nonneg (by omega)]; omega) | (rw [Int.tdiv_eq_ediv_of_nonneg (by omega)]; omega) | omega
  (try simp only [Act.put, List.setIfInBounds_toArray, List.set_cons_zero, List.set_cons_succ])
  refine wpAnyH_take (i := 1) (v := (.int .i64 (m : Int))) rfl (by kernel_rfl) (by kernel_rfl) (by kernel_rfl) (fun _ _ _ h => h) (Or.inl ⟨by rfl, ?_⟩) (by assumption) ?_
  · intro w' hSw
    (try dsimp only at hSw)
    go_simp <;> first | exact i64_in (by omega) (by omega) | exact u32_in (by omega) (by omega) | exact u32_add _ _ | (rw [Int.tmod_eq_emod_of_nonneg (by omega)]; omega) | (rw [Int.tdiv_eq_ediv_of_nonneg (by omega)]; omega) | omega
  (try simp only [Act.put, List.setIfInBounds_toArray, List.set_cons_zero, List.set_cons_succ])
  refine wpAnyH_take (i := 2) (v := (.string ((x.extract p (p + m + 4)).extract 0 m))) rfl (by kernel_rfl) (by kernel_rfl) (by kernel_rfl) (fun _ _ _ h => h) (Or.inl ⟨by rfl, ?_⟩) (by assumption) ?_
  · intro w' hSw
    (try dsimp only at hSw)
    go_simp <;> first | exact i64_in (by omega) (by omega) | exact u32_in (by omega) (by omega) | exact u32_add _ _ | (rw [Int.tmod_eq_emod_of_nonneg (by omega)]; omega) | (rw [Int.tdiv_eq_ediv_of_nonneg (by omega)]; omega) | omega
  (try simp only [Act.put, List.setIfInBounds_toArray, List.set_cons_zero, List.set_cons_succ])
  refine wpAnyH_take (i := 3) (v := (.string (x.extract p (p + m + 4)))) rfl (by kernel_rfl) (by kernel_rfl) (by kernel_rfl) (fun _ _ _ h => h) (Or.inl ⟨by rfl, ?_⟩) (by assumption) ?_
  · intro w' hSw
    (try dsimp only at hSw)
    go_simp <;> first | exact i64_in (by omega) (by omega) | exact u32_in (by omega) (by omega) | exact u32_add _ _ | (rw [Int.tmod_eq_emod_of_nonneg (by omega)]; omega) | (rw [Int.tdiv_eq_ediv_of_nonneg (by omega)]; omega) | omega
  (try simp only [Act.put, List.setIfInBounds_toArray, List.set_cons_zero, List.set_cons_succ])
  refine wpAnyH_take (i := 4) (v := (.int .i64 (m : Int))) rfl (by kernel_rfl) (by kernel_rfl) (by kernel_rfl) (fun _ _ _ h => h) (Or.inl ⟨by rfl, ?_⟩) (by assumption) ?_
  · intro w' hSw
    (try dsimp only at hSw)
    go_simp <;> first | exact i64_in (by omega) (by omega) | exact u32_in (by omega) (by omega) | exact u32_add _ _ | (rw [Int.tmod_eq_emod_of_nonneg (by omega)]; omega) | (rw [Int.tdiv_eq_ediv_of_nonneg (by omega)]; omega) | omega
  (try simp only [Act.put, List.setIfInBounds_toArray, List.set_cons_zero, List.set_cons_succ])
  refine wpAnyH_take (i := 5) (v := (.string ((x.extract p (p + m + 4)).extract m (m + 4)))) rfl (by kernel_rfl) (by kernel_rfl) (by kernel_rfl) (fun _ _ _ h => h) (Or.inl ⟨by rfl, ?_⟩) (by assumption) ?_
  · intro w' hSw
    (try dsimp only at hSw)
    go_simp <;> first | exact i64_in (by omega) (by omega) | exact u32_in (by omega) (by omega) | exact u32_add _ _ | (rw [Int.tmod_eq_emod_of_nonneg (by omega)]; omega) | (rw [Int.tdiv_eq_ediv_of_nonneg (by omega)]; omega) | omega
  (try simp only [Act.put, List.setIfInBounds_toArray, List.set_cons_zero, List.set_cons_succ])
  refine wpAnyH_ready (rs := [6]) (by kernel_rfl) (by simp) ?_
  refine AllReadyH.cons rfl (fun K hK => ?_) AllReadyH.nil
  go_simp
  refine Calls.mono (HC.out _) ?_
  rintro e w1 ⟨rfl, rfl⟩
  refine hK.out _ _ trivial (fun hHeld => ?_)
  clear hK K
  (try simp only [Act.put, List.setIfInBounds_toArray, List.set_cons_zero, List.set_cons_succ])
  refine wpAnyH_take (i := 7) (v := (.int .i64 (V : Int))) rfl (by kernel_rfl) (by kernel_rfl) (by kernel_rfl) (fun _ _ _ h => h) (Or.inl ⟨by rfl, ?_⟩) (by assumption) ?_
  · intro w' hSw
    (try dsimp only at hSw)
    (go_simp; exact i64_in (by omega) (by omega))
  (try simp only [Act.put, List.setIfInBounds_toArray, List.set_cons_zero, List.set_cons_succ])
  refine wpAnyH_take (i := 8) (v := (.agg #[.string ((x.extract p (p + m + 4)).extract 0 m), .int .i64 (V : Int)])) rfl (by kernel_rfl) (by kernel_rfl) (by kernel_rfl) (fun _ _ _ h => h) (Or.inl ⟨by rfl, ?_⟩) (by assumption) ?_
  · intro w' hSw
    (try dsimp only at hSw)
    go_simp <;> first | exact i64_in (by omega) (by omega) | exact u32_in (by omega) (by omega) | exact u32_add _ _ | (rw [Int.tmod_eq_emod_of_nonneg (by omega)]; omega) | (rw [Int.tdiv_eq_ediv_of_nonneg (by omega)]; omega) | omega
  (try simp only [Act.put, List.setIfInBounds_toArray, List.set_cons_zero, List.set_cons_succ])
  refine wpAnyH_ready (rs := [9]) (by kernel_rfl) (by simp) ?_
  refine AllReadyH.cons rfl (fun K hK => ?_) AllReadyH.nil
  go_simp
  refine hK.out _ _ trivial (fun hHeld => ?_)
  clear hK K
  (try simp only [Act.put, List.setIfInBounds_toArray, List.set_cons_zero, List.set_cons_succ])
  refine wpAnyH_done (by kernel_rfl) ?_ _
  go_wp2
  refine bodyPost_ret (v := .agg #[.string ((x.extract p (p + m + 4)).extract 0 m), .int .i64 (V : Int)]) ?_ rfl ⟨rfl, ?_⟩
  · exact results_cell_row rfl _ _ w.heap.size 67 _ (0, 0) _ rfl (heap_alloc_new w _) Try.underlying67 rfl (by kernel_rfl)
  · exact ((Below.refl _ w).alloc (Nat.le_refl _) _).drew
theorem mod_ne {a b : Nat} (h : ¬ a % b = 0) : ((a : Int) % (b : Int) != 0) = true := by
  have : ¬ ((a : Int) % (b : Int) = 0) := by norm_cast
  simpa using this
theorem mod_eq {a b : Nat} (h : a % b = 0) : ((a : Int) % (b : Int) != 0) = false := by
  have : ((a : Int) % (b : Int) = 0) := by norm_cast
  simpa using this
set_option maxHeartbeats 2000000 in
set_option maxRecDepth 100000 in
theorem countEntries_any (m : Int) (x : ByteArray) (hx : x.size ≤ 140737488351232) (w : World) :
    Calls Try.prog 34 #[.int .i64 m, .string x] w fun e w' =>
      e = .returned (.tuple #[.int .i64 (if (1 ≤ m ∧ m ≤ 16) ∧ x.size % (m.toNat + 4) = 0 then ((x.size / (m.toNat + 4) : Nat) : Int) else 0), .int .i64 (if 1 ≤ m ∧ m ≤ 16 then if x.size % (m.toNat + 4) = 0 then 0 else 38 else 30)]) ∧ w = w' := by
  by_cases hm : 1 ≤ m ∧ m ≤ 16
  · have hd : decide (1 ≤ m ∧ m ≤ 16) = true := decide_eq_true hm
    obtain ⟨n, rfl⟩ : ∃ n : Nat, m = (n : Int) := ⟨m.toNat, by omega⟩
    rw [Int.toNat_natCast]
    by_cases hq : x.size % (n + 4) = 0
    · rw [if_pos ⟨hm, hq⟩, if_pos hm, if_pos hq]
      have h1 := mod_eq hq
      rw [show ((n + 4 : Nat) : Int) = (n : Int) + 4 by omega] at h1
      have h2 : (x.size : Int) / ((n : Int) + 4) = ((x.size / (n + 4) : Nat) : Int) := by push_cast; rfl
      have h3 : x.size / (n + 4) ≤ x.size := Nat.div_le_self _ _
      generalize x.size / (n + 4) = Z at *
      clear hq
      go_enter Try.func34, Try.ntmps34
      go_wp2_with fail
      refine Calls.mono (isHashWidth_any _ _) ?_
      rintro e w' ⟨rfl, rfl⟩
      go_wp2_with fail
      go_ret2
      exact ⟨rfl, rfl⟩
    · rw [if_neg (fun k => hq k.2), if_pos hm, if_neg hq]
      have h1 := mod_ne hq
      rw [show ((n + 4 : Nat) : Int) = (n : Int) + 4 by omega] at h1
      clear hq
      go_enter Try.func34, Try.ntmps34
      go_wp2_with fail
      refine Calls.mono (isHashWidth_any _ _) ?_
      rintro e w' ⟨rfl, rfl⟩
      go_wp2_with fail
      go_ret2
      exact ⟨rfl, rfl⟩
  · have hd : decide (1 ≤ m ∧ m ≤ 16) = false := decide_eq_false hm
    rw [if_neg (fun k => hm k.1), if_neg hm]
    go_enter Try.func34, Try.ntmps34
    go_wp2_with fail
    refine Calls.mono (isHashWidth_any _ _) ?_
    rintro e w' ⟨rfl, rfl⟩
    go_wp2_with fail
    go_ret2
    exact ⟨rfl, rfl⟩
end Go.Proofs.Ytfmmfophdfjopaa
namespace Go.Proofs.Ytfmmfophdfjopaa
open Go.RowKit
abbrev EN := ByteArray × Nat
def LiesE (b off : Nat) (w : World) (ps : List EN) : Prop := ∀ i (h : i < ps.length), w.cell? ⟨b, off + i * 2, none⟩ = some (.string ps[i].1) ∧ w.cell? ⟨b, off + i * 2 + 1, none⟩ = some (.int .i64 (ps[i].2 : Int))
set_option maxRecDepth 100000 in
theorem entryHash_any (k : ByteArray) (v : Nat) (w : World) : Calls Try.prog 37 #[.agg #[.string k, .int .i64 (v : Int)]] w fun e w' => e = .returned (.string k) ∧ Below w.heap.size w w' := by
  go_enter Try.func37, Try.ntmps37
  go_wp2
  go_ret
  refine ⟨rfl, ?_⟩
  first | exact Below.refl _ _ | exact (Below.refl _ w).alloc (Nat.le_refl _) _
set_option maxHeartbeats 1000000 in
set_option maxRecDepth 100000 in
set_option linter.unusedSimpArgs false in
/-- rise of entries -/
theorem riseE_any (ao : Option Addr) (b off cap : Nat) (ps : List EN) (i : Nat) (w : World) (hi : i < ps.length) (hlen : ps.length ≤ 1099511627776000) (hao : ao = some ⟨b, off, none⟩) (hb : b < w.heap.size) (hl : LiesE b off w ps) :
    Calls Try.prog 36 #[.slice ao ps.length cap, .int .i64 (i : Int), .func (.func 37) #[] #[]] w fun e w' => e = .returned (.int .i64 (if i = 0 then 1 else if ps[i].1 = (ps.getD (i - 1) default).1 then 0 else if lessS ps[i].1 (ps.getD (i - 1) default).1 then -1 else 1)) ∧ Below w.heap.size w w' := by
  subst hao
  by_cases h0 : i = 0
  · subst h0
    go_enter Try.func36, Try.ntmps36
    go_wp2
    go_ret
    exact ⟨rfl, Below.refl _ _⟩
  · obtain ⟨j, rfl⟩ : ∃ j, i = j + 1 := ⟨i - 1, by omega⟩
    have hj : j < ps.length := by omega
    obtain ⟨g0, g1⟩ := hl (j + 1) hi
    obtain ⟨g2, g3⟩ := hl j hj
    rw [if_neg h0, show j + 1 - 1 = j by omega, List.getD_eq_getElem?_getD, List.getElem?_eq_getElem hj, Option.getD_some]
    have HS : Hid (∀ w', Below w.heap.size w w' → w'.cell? ⟨b, off + (j + 1) * 2, none⟩ = some (.string ps[j + 1].1) ∧ w'.cell? ⟨b, off + (j + 1) * 2 + 1, none⟩ = some (.int .i64 (ps[j + 1].2 : Int)) ∧ w'.cell? ⟨b, off + j * 2, none⟩ = some (.string ps[j].1) ∧ w'.cell? ⟨b, off + j * 2 + 1, none⟩ = some (.int .i64 (ps[j].2 : Int))) := fun w' hw => by
      rw [hw.cell (by exact hb), hw.cell (by exact hb), hw.cell (by exact hb), hw.cell (by exact hb)]
      exact ⟨g0, g1, g2, g3⟩
    clear g0 g1 g2 g3 hl
    generalize ps[j + 1].1 = K1 at *
    generalize ps[j + 1].2 = V1 at *
    generalize ps[j].1 = K0 at *
    generalize ps[j].2 = V0 at *
    have hil : ((j + 1 : Nat) : Int) < (ps.length : Int) := by omega
    generalize ps.length = N at *
    clear h0
    have CM := hide (fun w' => compare_any K1 K0 w')
    generalize (if K1 = K0 then (0 : Int) else if lessS K1 K0 = true then -1 else 1) = Z at *
    have hz : (((j + 1 : Nat) : Int) == 0) = false := by simp; omega
    go_enter Try.func36, Try.ntmps36
    go_wp2
    refine wp_region_held_drew (S := fun w' => w'.cell? ⟨b, off + (j + 1) * 2, none⟩ = some (.string K1) ∧ w'.cell? ⟨b, off + (j + 1) * 2 + 1, none⟩ = some (.int .i64 (V1 : Int)) ∧ w'.cell? ⟨b, off + j * 2, none⟩ = some (.string K0) ∧ w'.cell? ⟨b, off + j * 2 + 1, none⟩ = some (.int .i64 (V0 : Int))) (by kernel_rfl) (HS.out _ (Below.refl _ _).drew) (fun hHeld => ?_)
    refine wpAnyH_take (i := 0) (v := (.func (.func 37) #[] #[])) rfl (by kernel_rfl) (by kernel_rfl) (by kernel_rfl) (fun _ _ _ h => h) (Or.inl ⟨by rfl, ?_⟩) (by assumption) ?_
    · intro w' hSw
      (try dsimp only at hSw)
      go_simp <;> first | exact i64_in (by omega) (by omega) | exact u32_in (by omega) (by omega) | exact u32_add _ _ | (rw [Int.tmod_eq_emod_of_nonneg (by omega)]; omega) | (rw [Int.tdiv_eq_ediv_of_nonneg (by omega)]; omega) | omega
    (try simp only [Act.put, List.setIfInBounds_toArray, List.set_cons_zero, List.set_cons_succ])
    refine wpAnyH_take (i := 1) (v := (.slice (some ⟨b, off, none⟩) N cap)) rfl (by kernel_rfl) (by kernel_rfl) (by kernel_rfl) (fun _ _ _ h => h) (Or.inl ⟨by rfl, ?_⟩) (by assumption) ?_
    · intro w' hSw
      (try dsimp only at hSw)
      go_simp <;> first | exact i64_in (by omega) (by omega) | exact u32_in (by omega) (by omega) | exact u32_add _ _ | (rw [Int.tmod_eq_emod_of_nonneg (by omega)]; omega) | (rw [Int.tdiv_eq_ediv_of_nonneg (by omega)]; omega) | omega
    (try simp only [Act.put, List.setIfInBounds_toArray, List.set_cons_zero, List.set_cons_succ])
    refine wpAnyH_take (i := 2) (v := (.int .i64 ((j + 1 : Nat) : Int))) rfl (by kernel_rfl) (by kernel_rfl) (by kernel_rfl) (fun _ _ _ h => h) (Or.inl ⟨by rfl, ?_⟩) (by assumption) ?_
    · intro w' hSw
      (try dsimp only at hSw)
      go_simp <;> first | exact i64_in (by omega) (by omega) | exact u32_in (by omega) (by omega) | exact u32_add _ _ | (rw [Int.tmod_eq_emod_of_nonneg (by omega)]; omega) | (rw [Int.tdiv_eq_ediv_of_nonneg (by omega)]; omega) | omega
    (try simp only [Act.put, List.setIfInBounds_toArray, List.set_cons_zero, List.set_cons_succ])
    refine wpAnyH_take (i := 3) (v := (.pointer (some ⟨b, off + (j + 1) * 2, none⟩))) rfl (by kernel_rfl) (by kernel_rfl) (by kernel_rfl) (fun _ _ _ h => h) (Or.inl ⟨by rfl, ?_⟩) (by assumption) ?_
    · intro w' hSw
      (try dsimp only at hSw)
      go_simp <;> first | exact i64_in (by omega) (by omega) | exact u32_in (by omega) (by omega) | exact u32_add _ _ | (rw [Int.tmod_eq_emod_of_nonneg (by omega)]; omega) | (rw [Int.tdiv_eq_ediv_of_nonneg (by omega)]; omega) | omega
    (try simp only [Act.put, List.setIfInBounds_toArray, List.set_cons_zero, List.set_cons_succ])
    refine wpAnyH_take (i := 4) (v := (.agg #[.string K1, .int .i64 (V1 : Int)])) rfl (by kernel_rfl) (by kernel_rfl) (by kernel_rfl) (fun _ _ _ h => h) (Or.inl ⟨by rfl, ?_⟩) (by assumption) ?_
    · intro w' hSw
      (try dsimp only at hSw)
      (obtain ⟨hS1, hS2, hS3, hS4⟩ := hSw; go_simp)
    (try simp only [Act.put, List.setIfInBounds_toArray, List.set_cons_zero, List.set_cons_succ])
    refine wpAnyH_take (i := 6) (v := (.func (.func 37) #[] #[])) rfl (by kernel_rfl) (by kernel_rfl) (by kernel_rfl) (fun _ _ _ h => h) (Or.inl ⟨by rfl, ?_⟩) (by assumption) ?_
    · intro w' hSw
      (try dsimp only at hSw)
      go_simp <;> first | exact i64_in (by omega) (by omega) | exact u32_in (by omega) (by omega) | exact u32_add _ _ | (rw [Int.tmod_eq_emod_of_nonneg (by omega)]; omega) | (rw [Int.tdiv_eq_ediv_of_nonneg (by omega)]; omega) | omega
    (try simp only [Act.put, List.setIfInBounds_toArray, List.set_cons_zero, List.set_cons_succ])
    refine wpAnyH_take (i := 7) (v := (.slice (some ⟨b, off, none⟩) N cap)) rfl (by kernel_rfl) (by kernel_rfl) (by kernel_rfl) (fun _ _ _ h => h) (Or.inl ⟨by rfl, ?_⟩) (by assumption) ?_
    · intro w' hSw
      (try dsimp only at hSw)
      go_simp <;> first | exact i64_in (by omega) (by omega) | exact u32_in (by omega) (by omega) | exact u32_add _ _ | (rw [Int.tmod_eq_emod_of_nonneg (by omega)]; omega) | (rw [Int.tdiv_eq_ediv_of_nonneg (by omega)]; omega) | omega
    (try simp only [Act.put, List.setIfInBounds_toArray, List.set_cons_zero, List.set_cons_succ])
    refine wpAnyH_take (i := 8) (v := (.int .i64 ((j + 1 : Nat) : Int))) rfl (by kernel_rfl) (by kernel_rfl) (by kernel_rfl) (fun _ _ _ h => h) (Or.inl ⟨by rfl, ?_⟩) (by assumption) ?_
    · intro w' hSw
      (try dsimp only at hSw)
      go_simp <;> first | exact i64_in (by omega) (by omega) | exact u32_in (by omega) (by omega) | exact u32_add _ _ | (rw [Int.tmod_eq_emod_of_nonneg (by omega)]; omega) | (rw [Int.tdiv_eq_ediv_of_nonneg (by omega)]; omega) | omega
    (try simp only [Act.put, List.setIfInBounds_toArray, List.set_cons_zero, List.set_cons_succ])
    refine wpAnyH_take (i := 9) (v := (.int .i64 (j : Int))) rfl (by kernel_rfl) (by kernel_rfl) (by kernel_rfl) (fun _ _ _ h => h) (Or.inl ⟨by rfl, ?_⟩) (by assumption) ?_
    · intro w' hSw
      (try dsimp only at hSw)
      go_simp <;> first | exact i64_in (by omega) (by omega) | exact u32_in (by omega) (by omega) | exact u32_add _ _ | (rw [Int.tmod_eq_emod_of_nonneg (by omega)]; omega) | (rw [Int.tdiv_eq_ediv_of_nonneg (by omega)]; omega) | omega
    (try simp only [Act.put, List.setIfInBounds_toArray, List.set_cons_zero, List.set_cons_succ])
    refine wpAnyH_take (i := 10) (v := (.pointer (some ⟨b, off + j * 2, none⟩))) rfl (by kernel_rfl) (by kernel_rfl) (by kernel_rfl) (fun _ _ _ h => h) (Or.inl ⟨by rfl, ?_⟩) (by assumption) ?_
    · intro w' hSw
      (try dsimp only at hSw)
      go_simp <;> first | exact i64_in (by omega) (by omega) | exact u32_in (by omega) (by omega) | exact u32_add _ _ | (rw [Int.tmod_eq_emod_of_nonneg (by omega)]; omega) | (rw [Int.tdiv_eq_ediv_of_nonneg (by omega)]; omega) | omega
    (try simp only [Act.put, List.setIfInBounds_toArray, List.set_cons_zero, List.set_cons_succ])
    refine wpAnyH_take (i := 11) (v := (.agg #[.string K0, .int .i64 (V0 : Int)])) rfl (by kernel_rfl) (by kernel_rfl) (by kernel_rfl) (fun _ _ _ h => h) (Or.inl ⟨by rfl, ?_⟩) (by assumption) ?_
    · intro w' hSw
      (try dsimp only at hSw)
      (obtain ⟨hS1, hS2, hS3, hS4⟩ := hSw; go_simp)
    (try simp only [Act.put, List.setIfInBounds_toArray, List.set_cons_zero, List.set_cons_succ])
    refine wpAnyH_ready (rs := [5]) (by kernel_rfl) (by simp) ?_
    refine AllReadyH.cons rfl (fun K hK => ?_) AllReadyH.nil
    go_simp
    refine Calls.mono (entryHash_any _ _ _) ?_
    rintro e w1 ⟨rfl, hb1⟩
    have B1 := (Below.refl w.heap.size w).drew.trans hb1
    refine hK.out _ _ (HS.out _ B1) (fun hHeld => ?_)
    clear hK K
    (try simp only [Act.put, List.setIfInBounds_toArray, List.set_cons_zero, List.set_cons_succ])
    refine wpAnyH_ready (rs := [12]) (by kernel_rfl) (by simp) ?_
    refine AllReadyH.cons rfl (fun K hK => ?_) AllReadyH.nil
    go_simp
    refine Calls.mono (entryHash_any _ _ _) ?_
    rintro e w2 ⟨rfl, hb2⟩
    have B2 := B1.trans (hb2.mono B1.size)
    refine hK.out _ _ (HS.out _ B2) (fun hHeld => ?_)
    clear hK K
    (try simp only [Act.put, List.setIfInBounds_toArray, List.set_cons_zero, List.set_cons_succ])
    refine wpAnyH_ready (rs := [13]) (by kernel_rfl) (by simp) ?_
    refine AllReadyH.cons rfl (fun K hK => ?_) AllReadyH.nil
    go_simp
    refine Calls.mono (CM.out _) ?_
    rintro e w3 ⟨rfl, rfl⟩
    refine hK.out _ _ (HS.out _ B2) (fun hHeld => ?_)
    clear hK K
    (try simp only [Act.put, List.setIfInBounds_toArray, List.set_cons_zero, List.set_cons_succ])
    refine wpAnyH_ready (rs := [14]) (by kernel_rfl) (by simp) ?_
    refine AllReadyH.cons rfl (fun K hK => ?_) AllReadyH.nil
    go_simp
    refine hK.out _ _ hHeld (fun hHeld => ?_)
    clear hK K
    (try simp only [Act.put, List.setIfInBounds_toArray, List.set_cons_zero, List.set_cons_succ])
    refine wpAnyH_done (by kernel_rfl) ?_ _
    go_wp2
    go_ret
    exact ⟨rfl, B2⟩
/-- the cells of entries -/
def ec (es : List EN) : List Value := es.flatMap fun p => [.string p.1, .int .i64 (p.2 : Int)]
theorem ec_len (ps : List EN) : (ec ps).length = ps.length * 2 := by
  induction ps with
  | nil => rfl
  | cons p r ih => unfold ec at ih ⊢; rw [List.flatMap_cons, List.length_append, ih]; simp; omega
theorem ec_append (a b : List EN) : ec (a ++ b) = ec a ++ ec b := by simp [ec]
theorem ec_at (ps : List EN) : ∀ i (h : i < ps.length), (ec ps)[i * 2]? = some (.string ps[i].1) ∧ (ec ps)[i * 2 + 1]? = some (.int .i64 (ps[i].2 : Int)) := by
  induction ps with
  | nil => intro i h; simp at h
  | cons p r ih =>
    intro i h
    cases i with
    | zero => exact ⟨rfl, rfl⟩
    | succ i =>
      have := ih i (by simpa using h)
      have e : ec (p :: r) = .string p.1 :: .int .i64 (p.2 : Int) :: ec r := rfl
      rw [e, show (i + 1) * 2 = i * 2 + 1 + 1 by omega]
      simpa using this
theorem ec_one (ps : List EN) : ∀ u ∈ ec ps, u.oneCell' = true := by
  intro u hu
  obtain ⟨p, _, hp⟩ := List.mem_flatMap.1 hu
  simp at hp
  rcases hp with rfl | rfl <;> rfl
theorem row_liesE {w : World} {base g cap n : Nat} {ps : List EN} {e : TypeId} (h : w.ownsRow base e 2 (.slice (some ⟨g, 0, none⟩) n cap) n (ec ps)) (hn : ps.length ≤ n) : LiesE g 0 w ps := by
  intro i hi
  have h0 := h.cellAt (i * 2) (by omega)
  have h1 := h.cellAt (i * 2 + 1) (by omega)
  obtain ⟨p0, p1⟩ := ec_at ps i hi
  rw [Nat.zero_add, h0, h1, p0, p1]
  exact ⟨rfl, rfl⟩
theorem infoE : (Try.prog.info? 67).map (fun i => (i.zero, i.size, i.bytes)) = some (some (.agg #[.string ⟨#[]⟩, .int .i64 0]), 2, 24) := by kernel_rfl
theorem ec_two (p : EN) : ec [p] = (#[.string p.1, .int .i64 (p.2 : Int)] : Array Value).toList := rfl
theorem cell_ent (w : World) (X : ByteArray) (O : Nat) : ∀ j u, (ec [(X, O)])[j]? = some u → (w.alloc (.cells #[.string X, .int .i64 (O : Int)] 67)).cell? ((⟨w.heap.size, 0, none⟩ : Addr).add j) = some u := by
  rw [ec_two]
  exact (World.ownsRow_lit (base := 0) (e := 67) (size := 2) w _ 1 (by omega) (by unfold maxLen; omega) rfl).cells (g := w.heap.size) rfl
theorem ec_one_len (X : ByteArray) (O : Nat) : (ec [(X, O)]).length = 1 * 2 := rfl
/-- does entry i rise? -/
def upB (m : Nat) (x : ByteArray) (i : Nat) : Bool := decide (i = 0) || !(decide (rdeH m x i = rdeH m x (i - 1)) || lessS (rdeH m x i) (rdeH m x (i - 1)))
def ents (m : Nat) (x : ByteArray) (n : Nat) : List EN := (List.range n).map fun i => (rdeH m x i, rdeO m x i)
theorem ents_len (m : Nat) (x : ByteArray) (n : Nat) : (ents m x n).length = n := by simp [ents]
theorem ents_succ (m : Nat) (x : ByteArray) (n : Nat) : ents m x (n + 1) = ents m x n ++ [(rdeH m x n, rdeO m x n)] := by simp [ents, List.range_succ]
theorem ents_at (m : Nat) (x : ByteArray) (n i : Nat) (h : i < n) : (ents m x n)[i]'(by rw [ents_len]; exact h) = (rdeH m x i, rdeO m x i) := by simp [ents]
def allUp (m : Nat) (x : ByteArray) : Bool := (List.range (x.size / (m + 4))).all (upB m x)
theorem allUp_no {m : Nat} {x : ByteArray} {i : Nat} (hi : i < x.size / (m + 4)) (h : upB m x i = false) : allUp m x = false := by
  unfold allUp
  rw [List.all_eq_false]
  exact ⟨i, List.mem_range.2 hi, by simp [h]⟩
theorem allUp_yes {m : Nat} {x : ByteArray} (h : ∀ i, i < x.size / (m + 4) → upB m x i = true) : allUp m x = true := by
  unfold allUp
  rw [List.all_eq_true]
  exact fun i hi => h i (List.mem_range.1 hi)
/-- what readIndex says -/
def riE (m : Int) (x : ByteArray) : Int := if 1 ≤ m ∧ m ≤ 16 then if x.size % (m.toNat + 4) = 0 ∧ allUp m.toNat x = true then 0 else 38 else 30
def riL (m : Int) (x : ByteArray) : List EN := if riE m x = 0 then ents m.toNat x (x.size / (m.toNat + 4)) else []
theorem ri_width {m : Int} {x : ByteArray} (h : ¬ (1 ≤ m ∧ m ≤ 16)) : riE m x = 30 ∧ riL m x = [] := by
  have e : riE m x = 30 := by unfold riE; rw [if_neg h]
  exact ⟨e, by unfold riL; rw [e, if_neg (by omega)]⟩
theorem ri_no {m : Int} {x : ByteArray} (h : 1 ≤ m ∧ m ≤ 16) (hx : ¬ (x.size % (m.toNat + 4) = 0 ∧ allUp m.toNat x = true)) : riE m x = 38 ∧ riL m x = [] := by
  have e : riE m x = 38 := by unfold riE; rw [if_pos h, if_neg hx]
  exact ⟨e, by unfold riL; rw [e, if_neg (by omega)]⟩
theorem ri_yes {m : Int} {x : ByteArray} (h : 1 ≤ m ∧ m ≤ 16) (hx : x.size % (m.toNat + 4) = 0 ∧ allUp m.toNat x = true) : riE m x = 0 ∧ riL m x = ents m.toNat x (x.size / (m.toNat + 4)) := by
  have e : riE m x = 0 := by unfold riE; rw [if_pos h, if_pos hx]
  exact ⟨e, by unfold riL; rw [e, if_pos rfl]⟩
theorem rise_up (m : Nat) (x : ByteArray) (i : Nat) {Z : Int} (hZ : Z = if i = 0 then 1 else if rdeH m x i = rdeH m x (i - 1) then 0 else if lessS (rdeH m x i) (rdeH m x (i - 1)) then -1 else 1) : (upB m x i = true → 0 < Z) ∧ (upB m x i = false → Z ≤ 0) := by
  unfold upB
  rw [hZ]
  by_cases h0 : i = 0
  · simp [h0]
  · by_cases h1 : rdeH m x i = rdeH m x (i - 1)
    · simp [h0, h1]
    · by_cases h2 : lessS (rdeH m x i) (rdeH m x (i - 1)) = true
      · simp [h0, h1, h2]
      · simp only [Bool.not_eq_true] at h2
        simp [h0, h1, h2]
end Go.Proofs.Ytfmmfophdfjopaa
