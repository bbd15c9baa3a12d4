import Derived.Test.YtielppikobbppaaDoorPaShelf
import Derived.Test.YtielppikobbppaaDoorPaBuild
import Derived.Test.YtielppikobbppaaDoorDgPlain
import Derived.Outline
import Derived.Deep.MidRow
import Derived.Laws.EntriesVeiled
namespace Go.Proofs.YtielppikobbppaaDoor
open Go.RowKit Go.Shelf
/-- a row of a table: what stands ahead, the shape, the range, the closures, what stands behind -/
structure FD where
  wd : ByteArray
  sh : Int
  lo : Int
  hi : Int
  gf : Nat
  sf : Nat
  ca : Array Value
  en : ByteArray
def FD.cells (f : FD) : List Value := [.string f.wd, .int .i64 f.sh, .int .i64 f.lo, .int .i64 f.hi, .func (.func f.gf) #[] f.ca, .func (.func f.sf) #[] f.ca, .string f.en]
/-- a table in memory -/
def TabAt (b : Nat) (w : World) (ts : List FD) : Prop := ∀ i (h : i < ts.length), w.rangeAt b (i * 7) ts[i].cells
theorem rangeAt_cell {w : World} {b o : Nat} {cs : List Value} (h : w.rangeAt b o cs) (j : Nat) (v : Value) (hv : cs[j]? = some v) : w.cell? ⟨b, o + j, none⟩ = some v := h j v hv
set_option maxHeartbeats 2000000 in
set_option maxRecDepth 100000 in
/-- walk, over any table, with any closure -/
theorem walk_any (pf : Nat) (he : Enters Tryd.prog pf) (cp : Array Value) (b cap : Nat) (ts : List FD) (w : World) (I J : Nat → World → Prop) (hlen : ts.length ≤ 1000000) (h0 : I 0 w) (hT : ∀ i w', i ≤ ts.length → I i w' → TabAt b w' ts)
    (hI : ∀ i w' o, i ≤ ts.length → I i w' → I i (w'.alloc o))
    (hs : ∀ i (h : i < ts.length) w', I i w' → Calls Tryd.prog pf (#[.agg ts[i].cells.toArray] ++ cp) w' fun e w'' => (e = .returned (.bool true) ∧ I (i + 1) w'') ∨ (e = .returned (.bool false) ∧ J i w'')) :
    Calls Tryd.prog 43 #[.slice (some ⟨b, 0, none⟩) ts.length cap, .func (.func pf) #[] cp] w fun e w' => (e = .returned (.bool true) ∧ I ts.length w') ∨ (e = .returned (.bool false) ∧ ∃ i, i < ts.length ∧ J i w') := by
  unfold Enters at he
  have HT := hide hT
  have HI := hide hI
  have HS := hide hs
  clear hT hI hs
  go_enter Tryd.func43, Tryd.ntmps43
  go_wp2
  go_loopw [9] (fun v wr => ∃ k : Nat, k ≤ ts.length ∧ v = .int .i64 k ∧ Hid (I k wr)) (fun v _ => ts.length - (intOf v).toNat)
  case atStart => exact ⟨0, Nat.zero_le _, rfl, h0⟩
  case round =>
    obtain ⟨k, hk, rfl, hI⟩ := hrel
    by_cases hlt : k < ts.length
    · have hr := HT.out k wr hk hI.out k hlt
      have C := hide (HS.out k hlt (wr.alloc (.cells ts[k].cells.toArray 73)) (HI.out k wr _ hk hI.out))
      generalize hf : ts[k] = f at hr C
      clear hf
      have c0 : wr.cell? ⟨b, k * 7, none⟩ = _ := rangeAt_cell hr 0 _ rfl
      have c1 := rangeAt_cell hr 1 _ rfl
      have c2 := rangeAt_cell hr 2 _ rfl
      have c3 := rangeAt_cell hr 3 _ rfl
      have c4 := rangeAt_cell hr 4 _ rfl
      have c5 := rangeAt_cell hr 5 _ rfl
      have c6 := rangeAt_cell hr 6 _ rfl
      unfold FD.cells at C
      clear hr
      go_wp2_with fail
      refine Calls.mono C.out ?_
      rintro e w1 (⟨rfl, h1⟩ | ⟨rfl, h1⟩)
      · have H1 := hide h1
        clear h1
        go_wp2
        go_roundw
        case rel => exact ⟨k + 1, by omega, by go_num, H1⟩
        case measure => simp [intOf]; omega
      · have H1 := hide h1
        clear h1
        go_wp2
        go_ret
        exact .inr ⟨rfl, k, hlt, H1.out⟩
    · obtain rfl : k = ts.length := by omega
      go_wp2
      go_ret
      exact .inl ⟨rfl, hI.out⟩
end Go.Proofs.YtielppikobbppaaDoor
