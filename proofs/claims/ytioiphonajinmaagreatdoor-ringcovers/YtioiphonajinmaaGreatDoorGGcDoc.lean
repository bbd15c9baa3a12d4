import Derived.Test.YtioiphonajinmaaGreatDoorGGcName
namespace Go.Proofs.YtioiphonajinmaaGreatDoor
open Go.RowKit
theorem lo_one {i : Nat} (h : i < 20) : loS i = 1 := by
  have : i = 0 ∨ i = 1 ∨ i = 2 ∨ i = 3 ∨ i = 4 ∨ i = 5 ∨ i = 6 ∨ i = 7 ∨ i = 8 ∨ i = 9 ∨ i = 10 ∨ i = 11 ∨ i = 12 ∨ i = 13 ∨ i = 14 ∨ i = 15 ∨ i = 16 ∨ i = 17 ∨ i = 18 ∨ i = 19 := by omega
  rcases this with rfl | rfl | rfl | rfl | rfl | rfl | rfl | rfl | rfl | rfl | rfl | rfl | rfl | rfl | rfl | rfl | rfl | rfl | rfl | rfl <;> rfl
theorem lo_home : loS 20 = 0 := rfl
def VAt (w : World) (b : Nat) (x : Nat → Int) : Prop := w.heap[b]? = some (.cells (vA x) 54)
theorem VAt.c {w : World} {b : Nat} {x : Nat → Int} (h : VAt w b x) (i : Nat) (hi : i < 21) : w.cell? ⟨b, i, none⟩ = some (.int .i64 (x i)) := by
  unfold World.cell?
  rw [show w.heap[b]? = _ from h]
  exact vA_at x i hi
/-- what a reader of a definition has, behind its box -/
structure Boxed (N : Nat) (w W0 : World) (st : ByteArray) (x : Nat → Int) (ao : Option Addr) (b o cap : Nat) (pv : Nat → Value) (ns : List ND) : Prop where
  cl : ClAt W0 w.heap.size st x (.slice ao ns.length cap)
  nd : NsAt N W0 ao b o pv ns
  bel : Below w.heap.size w W0
theorem boxed {N : Nat} {w : World} (st : ByteArray) (x : Nat → Int) {ao : Option Addr} {b o : Nat} (cap : Nat) {pv : Nat → Value} {ns : List ND} (h : NsAt N w ao b o pv ns) (hN : N ≤ w.heap.size) : ∃ W0, W0 = w.alloc (.cells (clA st x (.slice ao ns.length cap)) 28) ∧ Boxed N w W0 st x ao b o cap pv ns :=
  ⟨_, rfl, new_cl _ _ _ _, h.below ((Below.refl _ _).alloc hN _), (Below.refl _ _).alloc (Nat.le_refl _) _⟩
end Go.Proofs.YtioiphonajinmaaGreatDoor
namespace Go.Proofs.YtioiphonajinmaaGreatDoor
open Go.RowKit
theorem cntI_le (k : Int) (l : List Int) : cntI k l ≤ l.length := by
  induction l with
  | nil => exact Nat.le_refl _
  | cons x r ih =>
    simp only [cntI, List.length_cons]
    split <;> omega
theorem cntI_take (k : Int) (l : List Int) (q : Nat) (h : q < l.length) : cntI k (l.take (q + 1)) = cntI k (l.take q) + (if l[q] = k then 1 else 0) := by
  rw [List.take_succ_eq_append_getElem h, cntI_append]
  simp [cntI]
theorem cnt_next (k : Int) (ns : List ND) (i : Nat) (h : i < ns.length) : cntI k (flat (ns.take (i + 1))) = cntI k (flat (ns.take i)) + cntI k ns[i].ps := by
  rw [List.take_succ_eq_append_getElem h, flat_append, flat_one, cntI_append]
/-- a definition's readers in a row: all they need of a world -/
structure Stand (N : Nat) (c : Nat) (W : World) (st : ByteArray) (x : Nat → Int) (ao : Option Addr) (b o cap : Nat) (pv : Nat → Value) (ns : List ND) : Prop where
  cl : ClAt W c st x (.slice ao ns.length cap)
  nd : NsAt N W ao b o pv ns
  le : N ≤ W.heap.size
theorem Stand.below {N c : Nat} {W W' : World} {st : ByteArray} {x : Nat → Int} {ao : Option Addr} {b o cap : Nat} {pv : Nat → Value} {ns : List ND} (h : Stand N c W st x ao b o cap pv ns) (hb : Below W.heap.size W W') : Stand N c W' st x ao b o cap pv ns :=
  ⟨h.cl.below hb, h.nd.below (hb.mono h.le), Nat.le_trans h.le hb.size⟩
theorem Boxed.stand {N : Nat} {w W0 : World} {st : ByteArray} {x : Nat → Int} {ao : Option Addr} {b o cap : Nat} {pv : Nat → Value} {ns : List ND} (h : Boxed N w W0 st x ao b o cap pv ns) (hN : N ≤ w.heap.size) : Stand N w.heap.size W0 st x ao b o cap pv ns := ⟨h.cl, h.nd, Nat.le_trans hN h.bel.size⟩
theorem dlB_parts {ns : List ND} (h1 : 1 ≤ (flat ns).length) (h2 : (flat ns).length ≤ 64) (h3 : ∀ i : Nat, i < (flat ns).length → cntI (i : Int) (flat ns) = 1) (h4 : ∀ i (h : i < ns.length), Rising ns[i].ps) : dlB ns = true :=
  dlB_true ⟨h1, h2, h3, fun n hn => by obtain ⟨q, hq, rfl⟩ := List.getElem_of_mem hn; exact h4 q hq⟩
end Go.Proofs.YtioiphonajinmaaGreatDoor
namespace Go.Proofs.YtioiphonajinmaaGreatDoor
open Go.RowKit
theorem exec_loadCl {ρ : Operand → Value} {o : Oper} {w : World} {b : Nat} {st : ByteArray} {x : Nat → Int} {nv : Value} (p : Operand) (ho : o.op = .load 28 p) (hx : ρ p = .pointer (some ⟨b, 0, none⟩)) (hO : ClAt w b st x nv) : (execOp ρ o).run Tryz.prog w = .ok (.value (.agg (clA st x nv))) w := by
  unfold execOp
  simp only [ho, hx, Sem.run_bind, run_loadCl w b st x nv hO, Result.andThen_ok, Sem.run_pure]
set_option maxHeartbeats 8000000 in
set_option maxRecDepth 100000 in
set_option linter.unusedSimpArgs false in
set_option linter.unusedVariables false in
/-- the program's Check -/
theorem check_any (N : Nat) (w : World) (st : ByteArray) (x : Nat → Int) (ao : Option Addr) (b o cap : Nat) (pv : Nat → Value) (ns : List ND) (h : NsAt N w ao b o pv ns) (hN : N ≤ w.heap.size) (hs : st.size ≤ 9223372036854775807) :
    Calls Tryz.prog 6 #[.agg (clA st x (.slice ao ns.length cap))] w fun e w' => e = .returned (.int .i64 (errP st x ns)) ∧ Below w.heap.size w w' := by
  obtain ⟨W0, hW0, hX⟩ := boxed st x cap h hN
  have HX := hide (hX.stand hN)
  have B0 := hide hX.bel
  clear hX h
  have NO := hide (nodesOf_any N W0 st x ao b o cap pv ns HX.out.nd HX.out.le hs)
  go_enter Tryz.func6, Tryz.ntmps6
  go_upto_region 1 with fail
  rw [← hW0]
  clear hW0
  go_wp2_with (refine wpList_loadCl rfl (.tmp 1) rfl w.heap.size st x _ rfl HX.out.cl ?_)
  refine Calls.mono NO.out ?_
  intro e W1 hn
  obtain ⟨v, rfl, _, _⟩ := hn.out
  have B1 := hide (B0.out.trans (hn.bel.mono B0.out.size))
  clear hn NO HX
  go_wp2_with fail
  go_ret
  exact ⟨rfl, B1.out⟩
end Go.Proofs.YtioiphonajinmaaGreatDoor
