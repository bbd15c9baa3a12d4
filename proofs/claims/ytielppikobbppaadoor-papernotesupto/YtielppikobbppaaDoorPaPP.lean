import Derived.Test.YtielppikobbppaaDoorPaSeal
namespace Go.Proofs.YtielppikobbppaaDoor
open Go.RowKit Go.Shelf
def sumWd : ByteArray := ⟨#[115, 117, 109, 32]⟩
/-- the whole paper: a title, the rows, the sum's line -/
def paperS (title : ByteArray) (l : List UInt8) : ByteArray := (title ++ strOf l) ++ strOf (sealL sumWd (crcN 0 (title ++ strOf l).data.toList))
set_option maxHeartbeats 2000000 in
set_option maxRecDepth 100000 in
theorem printPaper_no (title : ByteArray) (b cap : Nat) (ts : List FD) (w : World) (nv : Nat → Int) (tv : Nat → ByteArray) (ok : Nat → Bool) (hlen : ts.length ≤ 64) (hT : TabAt b w ts) (hb : b < w.heap.size)
    (he : ∀ i (h : i < ts.length), Enters Tryd.prog ts[i].gf) (hg : ∀ i (h : i < ts.length), GetsAt w ts[i] (nv i) (tv i)) (ha : ∀ i (h : i < ts.length), AllowsIs ts[i] (nv i) (tv i) (ok i)) (hok : allB ts.length ok = false) :
    Calls Tryd.prog 30 #[.string title, .slice (some ⟨b, 0, none⟩) ts.length cap] w fun e w' => e = .returned (.tuple #[.string ⟨#[]⟩, .int .i64 42]) ∧ Below w.heap.size w w' := by
  have C := hide (fit_any b cap ts w nv tv ok (by omega) hT hb he hg ha)
  rw [hok] at C
  clear he hg ha hT
  go_enter Tryd.func30, Tryd.ntmps30
  go_wp2_with fail
  refine Calls.mono C.out ?_
  rintro e w1 ⟨rfl, b1⟩
  clear C
  go_wp2
  go_ret2
  exact ⟨rfl, b1⟩
set_option maxHeartbeats 2000000 in
set_option maxRecDepth 100000 in
theorem printPaper_ok (title : ByteArray) (b cap : Nat) (ts : List FD) (w : World) (nv : Nat → Int) (tv : Nat → ByteArray) (ok : Nat → Bool) (out : Nat → ByteArray) (M : Nat) (hM : M ≤ 1000000000) (htl : title.size ≤ 1000) (hlen : ts.length ≤ 64) (hT : TabAt b w ts) (hb : b < w.heap.size)
    (he : ∀ i (h : i < ts.length), Enters Tryd.prog ts[i].gf) (hg : ∀ i (h : i < ts.length), GetsAt w ts[i] (nv i) (tv i)) (ha : ∀ i (h : i < ts.length), AllowsIs ts[i] (nv i) (tv i) (ok i)) (hok : allB ts.length ok = true)
    (hp : ∀ i (h : i < ts.length), PrintsAt w ts[i] (nv i) (tv i) (out i)) (h1 : ∀ i (h : i < ts.length), ts[i].wd.size ≤ 1000 ∧ ts[i].en.size ≤ 1000) (h2 : ∀ i, (out i).size ≤ M) (hT4 : Tab4 0 w) :
    Calls Tryd.prog 30 #[.string title, .slice (some ⟨b, 0, none⟩) ts.length cap] w fun e w' => e = .returned (.tuple #[.string (paperS title (wrL ts out ts.length)), .int .i64 0]) ∧ Below w.heap.size w w' := by
  have C := hide (fit_any b cap ts w nv tv ok (by omega) hT hb he hg ha)
  rw [hok] at C
  have hl := wrL_len ts out M h1 h2 ts.length (Nat.le_refl _)
  have hl2 : ts.length * (M + 2000) ≤ 64 * (1000000000 + 2000) := Nat.mul_le_mul (by omega) (by omega)
  have W := hide (fun w1 (b1 : Below w.heap.size w w1) => written_any b cap ts w1 nv tv out M hM hlen (hT.below hb b1) (by have := b1.size; omega) he (fun i h => (hg i h).below b1) (fun i h => (hp i h).below b1) h1 h2)
  have hsz : ¬ 9223372036854775807 < title.size + (strOf (wrL ts out ts.length)).size := by rw [strOf_size]; omega
  have S := hide (fun w1 (b1 : Below w.heap.size w w1) => sealed_any (title ++ strOf (wrL ts out ts.length)) sumWd w1 (by rw [ByteArray.size_append, strOf_size]; omega) (by decide) (hT4.below b1 hT4.lt))
  clear he hg ha hT hp hT4 h1 h2
  generalize hL : wrL ts out ts.length = L at *
  clear hL hl hl2
  go_enter Tryd.func30, Tryd.ntmps30
  go_wp2_with fail
  refine Calls.mono C.out ?_
  rintro e w1 ⟨rfl, b1⟩
  have B1 := hide b1
  have W1 := hide (W.out w1 b1)
  clear b1 C W
  go_wp2_with fail
  refine Calls.mono W1.out ?_
  rintro e w2 ⟨rfl, b2⟩
  have B2 := hide (B1.out.trans (b2.mono B1.out.size))
  have S2 := hide (S.out w2 B2.out)
  unfold sumWd at S2
  clear b2 W1 B1 S
  go_wp2_with fail
  refine Calls.mono S2.out ?_
  rintro e w3 ⟨rfl, b3⟩
  have B3 := hide (B2.out.trans (b3.mono B2.out.size))
  clear b3 S2 B2
  go_wp2
  go_ret2
  exact ⟨rfl, B3.out⟩
end Go.Proofs.YtielppikobbppaaDoor
