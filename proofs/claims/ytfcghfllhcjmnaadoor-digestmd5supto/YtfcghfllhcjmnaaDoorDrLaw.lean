import Derived.Test.YtfcghfllhcjmnaaDoorDjOwn
import Derived.Test.YtfcghfllhcjmnaaDoorDrMd5
import Derived.Test.YtfcghfllhcjmnaaDoorDmMd5
namespace Go.Proofs.YtfcghfllhcjmnaaDoor
open Go.RowKit
theorem md5O {lo : Nat} {w : World} {v : Value} {xs : List ByteArray} (h : OL lo w v xs) (hlen : xs.length ≤ 1099511627776) (hs : (cat xs).length ≤ 1099511627776) (hw : 3 ≤ w.heap.size) (hT1 : TabS 1 w) (hT2 : TabT 2 w) :
    Calls Tryd.prog 11 #[v] w fun e w' => e = .returned (.string (strOf (md5L (cat xs)))) ∧ Below w.heap.size w w' := by
  rcases h with ⟨rfl, rfl⟩ | ⟨g, c, hg, hp, rfl, hgl, ho⟩
  · exact md5_any none 0 0 0 [] w (fun h => by simp at h) (fun h => by simp at h) (fun j x hx => by simp at hx) hlen hs hw hT1 hT2
  · exact md5_any _ g 0 c xs w (fun _ => rfl) (fun _ => hgl) (own_lies ho) hlen hs hw hT1 hT2
/-- all tables that the law reads -/
structure AllTabs (w : World) : Prop where
  s : TabS 1 w
  t : TabT 2 w
  room : 3 ≤ w.heap.size
  r : RTabs w
theorem AllTabs.below {w w' : World} (h : AllTabs w) (hb : Below w.heap.size w w') : AllTabs w' :=
  ⟨h.s.below hb (by have := h.room; omega), h.t.below hb (by have := h.room; omega), Nat.le_trans h.room hb.size, h.r.below hb rfl⟩
set_option maxHeartbeats 2000000 in
set_option maxRecDepth 100000 in
/-- the law DigestMD5s -/
theorem md5s_any (ao : Option Addr) (b off cap : Nat) (xs : List ByteArray) (w : World) (hao : 0 < xs.length → ao = some ⟨b, off, none⟩) (hb : 0 < xs.length → b < w.heap.size) (hl : Lies b off w xs) (hlen : xs.length ≤ 1048576) (hs : (cat xs).length ≤ 1048576) (hT : AllTabs w) :
    Calls Tryd.prog 8 #[.slice ao xs.length cap] w fun e w' => e = .returned (.bool true) ∧ Below w.heap.size w w' := by
  have hsz : ∀ x ∈ xs, x.size ≤ 1099511627776 := fun x hx => Nat.le_trans (mem_catj hx) (by omega)
  have hcl := cat_turn xs
  have hyl : (xs.map turnB).length ≤ 1048576 := by simpa using hlen
  have e1 : ∀ l : List UInt8, l.length ≤ 1099511620000 → ∀ w' : World, RTabs w' → Calls Tryd.prog 25 #[.string (strOf l)] w' fun e w'' => e = .returned (.string (strOf (md5L l))) ∧ Below w'.heap.size w' w'' := fun l hl w' h => by
    have := rmd5_any (strOf l) (by rw [strOf_size]; exact hl) w' h
    rw [strOf_list] at this
    exact this
  have C1 := hide (e1 (cat xs) (by omega))
  have C2 := hide (e1 (cat (xs.map turnB)) (by omega))
  have hl2 : (cat (xs.map turnB)).length ≤ 1099511627776 := by omega
  have HL := hide hl
  have HT := hide hT
  have HSZ := hide hsz
  have HYL := hide hyl
  have HL2 := hide hl2
  have TW := hide (twin_own ao b off cap xs w hao hb hl hlen)
  clear hl hT hsz hyl hl2 hcl e1
  go_enter Tryd.func8, Tryd.ntmps8
  go_wp2_with fail
  refine Calls.mono TW.out ?_
  rintro e w1 ⟨l, rfl, ol1, b1⟩
  have O1 := hide ol1
  have B1 := hide b1
  clear ol1 b1
  go_wp2_with fail
  refine Calls.mono (md5O O1.out (by omega) (by omega) (HT.out.below B1.out).room (HT.out.below B1.out).s (HT.out.below B1.out).t) ?_
  rintro e w1' ⟨rfl, b1'⟩
  have B1' := hide (show Below w.heap.size w w1' from B1.out.trans (b1'.mono B1.out.size))
  have O1' := hide (O1.out.below b1')
  clear b1' O1 B1
  go_wp2_with fail
  refine Calls.mono (rjoin_any ao b off cap xs w1' hao (fun h => Nat.lt_of_lt_of_le (hb h) B1'.out.size) (HL.out.below hb B1'.out) (by omega) (by omega)) ?_
  rintro e w2 ⟨rfl, b2⟩
  have B2 := hide (show Below w.heap.size w w2 from B1'.out.trans (b2.mono B1'.out.size))
  have O2 := hide (O1'.out.below b2)
  clear b2 O1' B1'
  go_wp2_with fail
  refine Calls.mono (C1.out _ (HT.out.below B2.out).r) ?_
  rintro e w2' ⟨rfl, b2'⟩
  have B2' := hide (show Below w.heap.size w w2' from B2.out.trans (b2'.mono B2.out.size))
  have O2' := hide (O2.out.below b2')
  clear b2' O2 B2
  obtain ⟨Z, hZ⟩ : ∃ Z, Z = strOf (md5L (cat xs)) := ⟨_, rfl⟩
  rw [← hZ]
  clear hZ
  go_wp2_with fail
  refine Calls.mono (sameO O2'.out ao b off cap hao (HL.out.below hb B2'.out) (by omega)) ?_
  rintro e w3 ⟨rfl, b3⟩
  have B3 := hide (show Below w.heap.size w w3 from B2'.out.trans (b3.mono B2'.out.size))
  have O3 := hide (O2'.out.below b3)
  clear b3 O2' B2'
  go_wp2_with fail
  refine Calls.mono (overO O3.out (by omega) HSZ.out) ?_
  rintro e w4 ⟨rfl, o4, b4⟩
  have B4 := hide (show Below w.heap.size w w4 from B3.out.trans b4)
  have O4 := hide o4
  clear b4 o4 O3 B3
  go_wp2_with fail
  refine Calls.mono (md5O O4.out (Nat.le_trans HYL.out (by omega)) HL2.out (HT.out.below B4.out).room (HT.out.below B4.out).s (HT.out.below B4.out).t) ?_
  rintro e w4' ⟨rfl, b4'⟩
  have B4' := hide (show Below w.heap.size w w4' from B4.out.trans (b4'.mono B4.out.size))
  have O4' := hide (O4.out.below b4')
  clear b4' O4 B4
  go_wp2_with fail
  refine Calls.mono (twinO O4'.out HYL.out) ?_
  rintro e w5 ⟨l2, rfl, o5, b5⟩
  have B5 := hide (show Below w.heap.size w w5 from B4'.out.trans (b5.mono B4'.out.size))
  have O5 := hide o5
  clear o5 b5 O4' B4'
  go_wp2_with fail
  refine Calls.mono (joinO O5.out (Nat.le_trans HYL.out (by omega)) HL2.out) ?_
  rintro e w6 ⟨rfl, b6⟩
  have B6 := hide (show Below w.heap.size w w6 from B5.out.trans (b6.mono B5.out.size))
  clear b6 O5 B5
  go_wp2_with fail
  refine Calls.mono (C2.out _ (HT.out.below B6.out).r) ?_
  rintro e w7 ⟨rfl, b7⟩
  have B7 := hide (show Below w.heap.size w w7 from B6.out.trans (b7.mono B6.out.size))
  clear b7 B6
  obtain ⟨Y, hY⟩ : ∃ Y, Y = strOf (md5L (cat (xs.map turnB))) := ⟨_, rfl⟩
  rw [← hY]
  clear hY
  go_wp2
  go_ret
  exact ⟨by simp, B7.out⟩
end Go.Proofs.YtfcghfllhcjmnaaDoor
