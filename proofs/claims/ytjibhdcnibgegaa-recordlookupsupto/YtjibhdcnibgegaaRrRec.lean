import Derived.Test.YtjibhdcnibgegaaRrRead
namespace Go.Proofs.Ytjibhdcnibgegaa
open Go.RowKit
def inB (d : ByteArray) (a : Int) : Prop := 0 ≤ a ∧ a ≤ (d.size : Int)
def rrE (d : ByteArray) (a : Int) : Int := if 0 ≤ a ∧ a ≤ (d.size : Int) then if errL (spL d a.toNat) = 0 then 0 else 39 else 1
def rrL (d : ByteArray) (a : Int) : List KV := if (0 ≤ a ∧ a ≤ (d.size : Int)) ∧ errL (spL d a.toNat) = 0 then spL d a.toNat else []
def rrN (d : ByteArray) (a : Int) : Int := if (0 ≤ a ∧ a ≤ (d.size : Int)) ∧ errL (spL d a.toNat) = 0 then (spN d a.toNat : Int) else 0
theorem rr_arg {d : ByteArray} {a : Int} (h : ¬ (0 ≤ a ∧ a ≤ (d.size : Int))) : rrE d a = 1 ∧ rrL d a = [] ∧ rrN d a = 0 := by
  unfold rrE rrL rrN; rw [if_neg h, if_neg (fun k => h k.1), if_neg (fun k => h k.1)]; exact ⟨rfl, rfl, rfl⟩
theorem rr_bad {d : ByteArray} {a : Int} (h : 0 ≤ a ∧ a ≤ (d.size : Int)) (he : ¬ errL (spL d a.toNat) = 0) : rrE d a = 39 ∧ rrL d a = [] ∧ rrN d a = 0 := by
  unfold rrE rrL rrN; rw [if_pos h, if_neg he, if_neg (fun k => he k.2), if_neg (fun k => he k.2)]; exact ⟨rfl, rfl, rfl⟩
theorem rr_good {d : ByteArray} {a : Int} (h : 0 ≤ a ∧ a ≤ (d.size : Int)) (he : errL (spL d a.toNat) = 0) : rrE d a = 0 ∧ rrL d a = spL d a.toNat ∧ rrN d a = (spN d a.toNat : Int) := by
  unfold rrE rrL rrN; rw [if_pos h, if_pos he, if_pos ⟨h, he⟩, if_pos ⟨h, he⟩]; exact ⟨rfl, rfl, rfl⟩
theorem own_pairs {w : World} {base : Nat} {v : Value} {ps : List KV} (h : w.ownsRow base 81 2 v ps.length (pc ps)) : ∃ ao g cap, v = .slice ao ps.length cap ∧ (0 < ps.length → ao = some ⟨g, 0, none⟩) ∧ (0 < ps.length → g < w.heap.size) ∧ LiesP g 0 w ps := by
  rcases h.2 with ⟨rfl, h0⟩ | ⟨g, cap, cur, rfl, hg, hblk, _⟩
  · rw [h0]
    exact ⟨none, 0, 0, rfl, fun k => by omega, fun k => by omega, fun i hi => by omega⟩
  · exact ⟨some ⟨g, 0, none⟩, g, cap, rfl, fun _ => rfl, fun _ => row_lt h, row_lies (qs := []) (by rw [List.append_nil]; exact h) (Nat.le_refl _)⟩
theorem spL_len (d : ByteArray) (p : Nat) : (spL d p).length < 65536 := by
  cases h : spellAt d p with
  | none => rw [(spL_none h).1]; simp
  | some x => obtain ⟨l, q⟩ := x; rw [(spL_some h).1]; exact (spell_rec h).2.2.1
set_option maxHeartbeats 2000000 in
set_option maxRecDepth 100000 in
/-- ReadRecord -/
theorem readRecord_any (d : ByteArray) (a : Int) (hd : d.size ≤ 140737488351232) (w : World) :
    Calls Try.prog 18 #[.string d, .int .i64 a] w fun e w' => ∃ v, e = .returned (.tuple #[v, .int .i64 (rrN d a), .int .i64 (rrE d a)]) ∧ w'.ownsRow w.heap.size 81 2 v (rrL d a).length (pc (rrL d a)) ∧ Below w.heap.size w w' := by
  by_cases hin : 0 ≤ a ∧ a ≤ (d.size : Int)
  · obtain ⟨p, rfl⟩ : ∃ p : Nat, a = (p : Int) := ⟨a.toNat, by omega⟩
    have R := hide (read_any d p hd (by omega) w)
    have hsl := spL_len d p
    by_cases he : errL (spL d p) = 0
    · obtain ⟨e1, e2, e3⟩ := rr_good hin (by rwa [Int.toNat_natCast])
      rw [e1, e2, e3, Int.toNat_natCast]
      clear e1 e2 e3
      have HE := hide he
      clear he
      generalize spN d p = NN at *
      generalize spL d p = L at *
      go_enter Try.func18, Try.ntmps18
      go_wp2_with fail
      refine Calls.mono R.out ?_
      rintro e w1 ⟨v, rfl, o1, hb1⟩
      obtain ⟨ao, g, cap, rfl, h1, h2, h3⟩ := own_pairs o1
      have W := weigh_any ao g 0 cap L w1 h1 h2 (by omega) h3
      rw [HE.out] at W
      have HW := hide W
      have O1 := hide o1
      have HB := hide hb1
      have s1 := hb1.size
      clear W o1 hb1 h1 h2 h3
      go_wp2_with fail
      refine Calls.mono HW.out ?_
      rintro e w2 ⟨rfl, hb2⟩
      have O2 := hide (own_below O1.out hb2)
      have B2 := hide (HB.out.trans (hb2.mono s1))
      clear hb2
      go_wp2_with fail
      go_ret3
      exact ⟨_, rfl, O2.out, B2.out⟩
    · obtain ⟨e1, e2, e3⟩ := rr_bad hin (by rwa [Int.toNat_natCast])
      rw [e1, e2, e3]
      clear e1 e2 e3
      have hne : (errL (spL d p) != 0) = true := by simpa using he
      clear he
      generalize spN d p = NN at *
      generalize spL d p = L at *
      go_enter Try.func18, Try.ntmps18
      go_wp2_with fail
      refine Calls.mono R.out ?_
      rintro e w1 ⟨v, rfl, o1, hb1⟩
      obtain ⟨ao, g, cap, rfl, h1, h2, h3⟩ := own_pairs o1
      have HW := hide (weigh_any ao g 0 cap L w1 h1 h2 (by omega) h3)
      have HB := hide hb1
      have s1 := hb1.size
      clear o1 hb1 h1 h2 h3
      generalize errL L = E at *
      generalize wSize L = WS at *
      go_wp2_with fail
      refine Calls.mono HW.out ?_
      rintro e w2 ⟨rfl, hb2⟩
      have B2 := hide (HB.out.trans (hb2.mono s1))
      clear hb2
      go_wp2_with fail
      go_ret3
      exact ⟨_, rfl, World.ownsRow_nil _ _ _ _, B2.out⟩
  · obtain ⟨e1, e2, e3⟩ := rr_arg hin
    rw [e1, e2, e3]
    clear e1 e2 e3
    by_cases hneg : a < 0
    · go_enter Try.func18, Try.ntmps18
      go_wp2_with fail
      go_ret3
      exact ⟨_, rfl, World.ownsRow_nil _ _ _ _, Below.refl _ _⟩
    · have hbig : (d.size : Int) < a := by omega
      clear hin
      go_enter Try.func18, Try.ntmps18
      go_wp2_with fail
      go_ret3
      exact ⟨_, rfl, World.ownsRow_nil _ _ _ _, Below.refl _ _⟩
end Go.Proofs.Ytjibhdcnibgegaa
