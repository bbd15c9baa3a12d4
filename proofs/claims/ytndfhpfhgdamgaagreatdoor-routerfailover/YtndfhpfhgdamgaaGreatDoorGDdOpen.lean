import Derived.Test.YtndfhpfhgdamgaaGreatDoorRows
import Derived.Test.YtndfhpfhgdamgaaGreatDoorGDdCheck
import Derived.ProofKit
import Derived.OpenShut
import Derived.JoinedOf
import Derived.SizedLaws
import Derived.Lib.SmallJoins
import Derived.Deep.SlicePairs
import Derived.Deep.DeepHandedRow
import Derived.Test.YtndfhpfhgdamgaaGreatDoorGRfLaw
import Derived.Lib.LaidTab
import Derived.Lib.LaidU8
import Derived.Shelf.Vars
namespace Go.Proofs.YtndfhpfhgdamgaaGreatDoor.Cn
open Go.ChangeShapes Go.WideShapes Go.ChangeAt Go.RowKit Go.Deep
open Go.Joins (open_agg3 open_agg2)
theorem cellsI : Tryz.prog.cellsOf 3 = 1 := by kernel_rfl
theorem cellsIs : Tryz.prog.cellsOf 25 = 1 := by kernel_rfl
theorem laidOutP : laidOutB Tryz.prog = true := by kernel_rfl
theorem add_plainT (b o j : Nat) : (⟨b, o, none⟩ : Addr).add j = ⟨b, o + j, none⟩ := Addr.add_mid b o j
set_option maxRecDepth 100000 in
/-- ints that are handed in -/
theorem open_is {H : Type} {enc : TypeId × Value → H} {w : World} {base fuel : Nat} {spare : Nat → Bool} {held : Bool} {v : Value} {x : DataW H × List MemPlace} (h : DataW.trod enc Tryz.prog w base spare held fuel 25 [v] = some x) :
    ∃ (L : List Int) (ao : Option Addr) (b o cap : Nat), v = .slice ao L.length cap ∧ IsAt w ao b o L := by
  rcases open_slice1 Tryz.underlying25 cellsI h with ⟨h0, _⟩ | ⟨a, len, cap, m, n, V, D, Pl, hv, hb, hl, hm, hmm, hx, hc⟩
  · simp only [List.cons.injEq, and_true] at h0
    subst h0
    exact ⟨[], none, 0, 0, 0, rfl, ⟨fun q => absurd q (by simp), (fun q hq => absurd hq (by simp)), Nat.zero_le _⟩⟩
  · simp only [List.cons.injEq, and_true] at hv
    subst hv
    have hlm : len ≤ m := by rw [hmm]; split <;> omega
    have each : ∀ i, i < len → ∃ y : Int, V i = .int .i64 y := fun i hi => by
      obtain ⟨y, f, _, _⟩ := DataW.trod_int Tryz.underlying3 (hc i (by omega)).2
      simp only [List.cons.injEq, and_true] at f
      exact ⟨y, f⟩
    obtain ⟨q, hq⟩ := choose_lt each
    have hplen : ((List.range len).map q).length = len := by simp
    obtain ⟨b, off, spot⟩ := a
    have hspot : 0 < len → spot = none := fun h => by simpa [Addr.add] using World.cell?_spot (hc 0 (by omega)).1
    have cell : ∀ (i : Nat) (hi : i < ((List.range len).map q).length), w.cell? ⟨b, off + i, none⟩ = some (.int .i64 ((List.range len).map q)[i]) := by
      intro i hi
      have hi' : i < len := by rw [hplen] at hi; exact hi
      have e := (hc i (by omega)).1
      rw [hspot (by omega), add_plainT, hq i hi'] at e
      rw [e, List.getElem_map, List.getElem_range]
    refine ⟨(List.range len).map q, some ⟨b, off, spot⟩, b, off, cap, by rw [hplen], ⟨fun z => ?_, cell, ?_⟩⟩
    · rw [hplen] at z
      rw [hspot z]
    · rw [hplen]
      unfold maxLen at hm
      omega
/-- steps -/
structure Stp where
  kd : Int
  nd : Int
  ns : List Int
/-- steps that can be read -/
structure SsAt (w : World) (ao : Option Addr) (b o : Nat) (ia : Nat → Option Addr) (ib io ic : Nat → Nat) (ss : List Stp) : Prop where
  at0 : 0 < ss.length → ao = some ⟨b, o, none⟩
  c0 : ∀ i (h : i < ss.length), w.cell? ⟨b, o + i * 3, none⟩ = some (.int .i64 ss[i].kd)
  c1 : ∀ i (h : i < ss.length), w.cell? ⟨b, o + i * 3 + 1, none⟩ = some (.int .i64 ss[i].nd)
  c2 : ∀ i (h : i < ss.length), w.cell? ⟨b, o + i * 3 + 2, none⟩ = some (.slice (ia i) ss[i].ns.length (ic i))
  is : ∀ i (h : i < ss.length), IsAt w (ia i) (ib i) (io i) ss[i].ns
  len : ss.length ≤ 9223372036854775807
theorem cell_kp {w w' : World} {b o : Nat} {v : Value} (h : w.cell? ⟨b, o, none⟩ = some v) {S : Nat → Prop} (hk : Kp w w' S) (hS : ¬ S b) : w'.cell? ⟨b, o, none⟩ = some v := by
  have e := hk.block b (World.block_lt_of_cell? w _ h) hS
  unfold World.cell? at h ⊢
  dsimp only at h ⊢
  rw [e]
  exact h
theorem SsAt.kp {w w' : World} {ao : Option Addr} {b o : Nat} {ia : Nat → Option Addr} {ib io ic : Nat → Nat} {ss : List Stp} (h : SsAt w ao b o ia ib io ic ss) {S : Nat → Prop} (hk : Kp w w' S) (hS : ∀ k, S k → w.heap.size ≤ k) : SsAt w' ao b o ia ib io ic ss := by
  have hlt : ∀ {k j : Nat} {v : Value}, w.cell? ⟨k, j, none⟩ = some v → ¬ S k := fun hc e => by
    have := hS _ e
    have := World.block_lt_of_cell? w _ hc
    dsimp only at this
    omega
  exact ⟨h.at0, fun i hi => cell_kp (h.c0 i hi) hk (hlt (h.c0 i hi)), fun i hi => cell_kp (h.c1 i hi) hk (hlt (h.c1 i hi)), fun i hi => cell_kp (h.c2 i hi) hk (hlt (h.c2 i hi)), fun i hi => (h.is i hi).kp hk (fun hp => hlt ((h.is i hi).cell 0 hp)), h.len⟩
theorem list3 {α : Type} {l : List α} (h : l.length = 3) : ∃ a0 a1 a2, l = [a0, a1, a2] := by
  match l, h with
  | [a0, a1, a2], _ => exact ⟨a0, a1, a2, rfl⟩
end Go.Proofs.YtndfhpfhgdamgaaGreatDoor.Cn
namespace Go.Proofs.YtndfhpfhgdamgaaGreatDoor.Cn
open Go.ChangeShapes Go.WideShapes Go.ChangeAt Go.RowKit Go.Deep
theorem int_of2 {n : Int} (h : (Lit.int .i64 n).wf = true) : -9223372036854775808 ≤ n ∧ n < 9223372036854775808 := by
  simp [Lit.wf, IntKind.min, IntKind.max, IntKind.signed, IntKind.bits] at h
  omega
end Go.Proofs.YtndfhpfhgdamgaaGreatDoor.Cn
namespace Go.Proofs.YtndfhpfhgdamgaaGreatDoor
open Go.RowKit Go.Lib
def laidD : List (String × DataW Unit) := [("granary/digest.sines", Rows.laid_granary_digest_sines), ("granary/digest.turns", Rows.laid_granary_digest_turns)]
theorem gName1 : Tryz.prog.globalNamed "granary/digest.sines" = some 0 := by kernel_rfl
theorem gName2 : Tryz.prog.globalNamed "granary/digest.turns" = some 1 := by kernel_rfl
theorem gType1 : (Tryz.prog.globals[0]?).map (·.type) = some 173 := by kernel_rfl
theorem gType2 : (Tryz.prog.globals[1]?).map (·.type) = some 176 := by kernel_rfl
theorem cells48 : Tryz.prog.cellsOf 125 = 1 := by kernel_rfl
theorem cells64 : Tryz.prog.cellsOf 173 = 64 := by kernel_rfl
theorem cells3 : Tryz.prog.cellsOf 3 = 1 := by kernel_rfl
theorem cells4 : Tryz.prog.cellsOf 175 = 4 := by kernel_rfl
theorem cells44 : Tryz.prog.cellsOf 176 = 16 := by kernel_rfl
theorem tab_of {W : World} {name : String} {d : DataW Unit} {k : IntKind} {zs : List Int} {g : Nat} {t e : TypeId} {n : Nat} (h : VarReads Tryz.prog W name d) (hd : d = tabData k zs)
    (hg : Tryz.prog.globalNamed name = some g) (hty : (Tryz.prog.globals[g]?).map (·.type) = some t) (ht : Tryz.prog.underlying t = some (.array n e)) (he : Tryz.prog.underlying e = some (.int k)) (hce : Tryz.prog.cellsOf e = 1) (hct : Tryz.prog.cellsOf t = n) : TabIs Tryz.prog W name k zs := by
  obtain ⟨g', t', cs, fuel, p, hg', ht', hvar, hdd⟩ := h
  obtain rfl := Option.some.inj (hg.symm.trans hg')
  obtain rfl := Option.some.inj (hty.symm.trans ht')
  subst hd
  unfold TabIs
  rw [hvar, ← cells_of_tab ht he hce hct hdd]
def turnRows : List (List Int) := [[7, 12, 17, 22], [5, 9, 14, 20], [4, 11, 16, 23], [6, 10, 15, 21]]
theorem turns_cells {W : World} {fuel : Nat} {cs : List Value} {p : List MemPlace} {sp : Nat → Bool} (h : DataW.trod (fun _ => ()) Tryz.prog W 0 sp false fuel 176 cs = some (.agg (turnRows.map fun r => tabData .i64 r), p)) :
    ∀ j, j < 16 → cs[j]? = some (.int .i64 (trn j : Int)) := by
  cases fuel with
  | zero => simp [DataW.trod] at h
  | succ fuel =>
    simp only [DataW.trod, Tryz.underlying176, cells4, cells44] at h
    split at h
    · obtain ⟨xs, hm, hx⟩ := Option.map_eq_some_iff.1 h
      have hxs : xs.map (·.1) = turnRows.map fun r => (tabData .i64 r : DataW Unit) := by
        have := congrArg Prod.fst hx
        simpa using this
      have row : ∀ i, i < 4 → ∀ r, turnRows[i]? = some r → (cs.drop (i * 4)).take 4 = r.map fun z => Value.int .i64 z := by
        intro i hi r hr
        obtain ⟨b, hb, hf⟩ := mapM_at hm i i (by simp [hi])
        have h2 : (xs.map (·.1))[i]? = some b.1 := by simp [hb]
        rw [hxs, List.getElem?_map, hr] at h2
        have h3 : b.1 = tabData .i64 r := (Option.some.inj h2).symm
        obtain ⟨b1, b2⟩ := b
        subst h3
        exact cells_of_tab Tryz.underlying175 Tryz.underlying3 cells3 cells4 hf
      intro j hj
      have hq := row (j / 4) (by omega)
      have hcell : cs[j]? = ((cs.drop (j / 4 * 4)).take 4)[j % 4]? := by
        rw [List.getElem?_take_of_lt (by omega), List.getElem?_drop]
        congr 1
        omega
      have key : ∃ r, turnRows[j / 4]? = some r ∧ (r.map fun z => Value.int .i64 z)[j % 4]? = some (.int .i64 (trn j : Int)) := by
        clear hq hcell
        rcases (show j = 0 ∨ j = 1 ∨ j = 2 ∨ j = 3 ∨ j = 4 ∨ j = 5 ∨ j = 6 ∨ j = 7 ∨ j = 8 ∨ j = 9 ∨ j = 10 ∨ j = 11 ∨ j = 12 ∨ j = 13 ∨ j = 14 ∨ j = 15 by omega) with rfl | rfl | rfl | rfl | rfl | rfl | rfl | rfl | rfl | rfl | rfl | rfl | rfl | rfl | rfl | rfl <;> exact ⟨_, rfl, rfl⟩
      obtain ⟨r, hr1, hr2⟩ := key
      rw [hcell, hq r hr1]
      exact hr2
    · cases h
theorem tabd_of {W : World} (h1 : VarReads Tryz.prog W "granary/digest.sines" Rows.laid_granary_digest_sines) (h2 : VarReads Tryz.prog W "granary/digest.turns" Rows.laid_granary_digest_turns) (hsh : W.ShapedOpen Tryz.prog) : TabD W := by
  obtain ⟨mx, hmx⟩ : ∃ m, W.cell? ⟨2, 0, none⟩ = some (.int .i64 m) := Go.Proofs.cell_of_shapedOpen_int (zero := #[.int .i64 0]) (t := 3) hsh (of_decide_eq_true (by kernel_rfl)) (by kernel_rfl) rfl (by kernel_rfl) (by kernel_rfl) Tryz.underlying3
  have t1 := tab_of (zs := SN) h1 rfl gName1 gType1 Tryz.underlying173 Tryz.underlying125 cells48 cells64
  have t2 : TabT 1 W := fun j hj => by
    obtain ⟨g', t', cs, fuel, p, hg', ht', hvar, hdd⟩ := h2
    obtain rfl := Option.some.inj (gName2.symm.trans hg')
    obtain rfl := Option.some.inj (gType2.symm.trans ht')
    have := turns_cells hdd j hj
    rw [World.var?_cell gName2 hvar j]
    simpa using this
  refine ⟨World.block_lt_of_cell? W _ hmx, fun j hj => ?_, t2⟩
  · rw [t1.cell gName1 j (by exact hj)]
    have : ∀ m : Fin 64, SN.getD m.1 0 = (sin m.1 : Int) := by decide +kernel
    rw [this ⟨j, hj⟩]
end Go.Proofs.YtndfhpfhgdamgaaGreatDoor
