import Derived.Test.YtedfonpmjengkaaRows
import Derived.Test.YtedfonpmjengkaaGCaBase
import Derived.ProofKit
import Derived.OpenShut
import Derived.SizedLaws
import Derived.JoinedOf
import Derived.Deep.SlicePairs
namespace Go.Proofs.Ytedfonpmjengkaa.Cn
open Go.ChangeShapes Go.WideShapes Go.ChangeAt Go.RowKit Go.Deep
theorem cellsI : Try.prog.cellsOf 3 = 1 := by kernel_rfl
theorem cellsS : Try.prog.cellsOf 9 = 1 := by kernel_rfl
theorem cellsE : Try.prog.cellsOf 25 = 1 := by kernel_rfl
theorem cellsFd : Try.prog.cellsOf 27 = 5 := by kernel_rfl
theorem laidOutP : laidOutB Try.prog = true := by kernel_rfl
theorem add_plainT (b o j : Nat) : (⟨b, o, none⟩ : Addr).add j = ⟨b, o + j, none⟩ := Addr.add_mid b o j
theorem list5 {α : Type} {l : List α} (h : l.length = 5) : ∃ a0 a1 a2 a3 a4, l = [a0, a1, a2, a3, a4] := by
  match l, h with
  | [a0, a1, a2, a3, a4], _ => exact ⟨a0, a1, a2, a3, a4, rfl⟩
set_option maxRecDepth 100000 in
set_option maxHeartbeats 1000000 in
set_option linter.unusedSimpArgs false in
/-- one finding's cells -/
theorem open_fd {H : Type} {enc : TypeId × Value → H} {w : World} {base fuel : Nat} {spare : Nat → Bool} {held : Bool} {cs : List Value} {x : DataW H × List MemPlace} (h : DataW.trod enc Try.prog w base spare held fuel 27 cs = some x) (hl : cs.length = 5) :
    ∃ y : Fd, cs = (fdV y).toList := by
  obtain ⟨c0, c1, c2, c3, c4, rfl⟩ := list5 hl
  obtain ⟨xs, n, _, hx, _, hxl, hq⟩ := DataW.trod_struct Try.underlying27 h
  obtain ⟨ya, yb, yc, yd, ye, rfl⟩ := list5 hxl
  have g0 := hq 0 _ rfl
  have g1 := hq 1 _ rfl
  have g2 := hq 2 _ rfl
  have g3 := hq 3 _ rfl
  have g4 := hq 4 _ rfl
  simp [cellsI, cellsS, cellsE] at g0 g1 g2 g3 g4
  obtain ⟨n0, f0, z0, w0⟩ := DataW.trod_string Try.underlying9 g0
  obtain ⟨n1, f1, z1, w1⟩ := DataW.trod_int Try.underlying3 g1
  obtain ⟨n2, f2, z2, w2⟩ := DataW.trod_int Try.underlying25 g2
  obtain ⟨n3, f3, z3, w3⟩ := DataW.trod_int Try.underlying3 g3
  obtain ⟨n4, f4, z4, w4⟩ := DataW.trod_int Try.underlying3 g4
  simp only [List.cons.injEq, and_true] at f0 f1 f2 f3 f4
  subst f0 f1 f2 f3 f4
  exact ⟨⟨n0, n1, n2, n3, n4⟩, rfl⟩
set_option maxRecDepth 100000 in
set_option linter.unusedVariables false in
/-- findings that are handed in -/
theorem open_fds {H : Type} {enc : TypeId × Value → H} {w : World} {base fuel : Nat} {spare : Nat → Bool} {held : Bool} {v : Value} {x : DataW H × List MemPlace} (h : DataW.trod enc Try.prog w base spare held fuel 22 [v] = some x) (hlt : ∀ q ∈ x.2, q.block < w.heap.size) :
    ∃ (ys : List Fd) (ao : Option Addr) (b o cap : Nat), v = .slice ao ys.length cap ∧ FdsAt w.heap.size w ao b o ys ∧ (ao = none → ys.length = 0 ∧ cap = 0) ∧ (ys.length = 0 ∨ ∃ elems spare, x.1 = .slice elems spare ∧ ys.length = elems.length) := by
  rcases open_slice Try.underlying22 h with ⟨h0, _⟩ | ⟨a, len, cap, m, n, D, Pl, hv, hb, hl, hm, hmm, hx, hc⟩
  · simp only [List.cons.injEq, and_true] at h0
    exact ⟨[], none, 0, 0, 0, by rw [h0]; rfl, ⟨fun q => absurd q (by simp), fun q => absurd q (by simp), (fun q hq => absurd hq (by simp))⟩, fun _ => ⟨rfl, rfl⟩, Or.inl rfl⟩
  · simp only [List.cons.injEq, and_true] at hv
    have hlm : len ≤ m := by rw [hmm]; split <;> omega
    have each : ∀ i, i < len → ∃ y : Fd, ∀ j u, (fdV y)[j]? = some u → w.cell? (a.add (i * 5 + j)) = some u := by
      intro i hi
      obtain ⟨cs', h1, h2⟩ := hc i (by omega)
      rw [cellsFd] at h1
      obtain ⟨_, hlen, hcell⟩ := World.cells?_some h1
      obtain ⟨y, hy⟩ := open_fd h2 hlen
      refine ⟨y, fun j u hj => ?_⟩
      have hj5 : j < 5 := (Array.getElem?_eq_some_iff.1 hj).1
      have e := hcell j hj5
      rw [add_add] at e
      rw [e, ← hj, hy, Array.getElem?_toList]
    haveI : Inhabited Fd := ⟨fd0⟩
    obtain ⟨q, hq⟩ := choose_lt each
    have hplen : ((List.range len).map q).length = len := by simp
    obtain ⟨b, off, spot⟩ := a
    have hspot : 0 < len → spot = none := fun h => by simpa [Addr.add] using World.cell?_spot (hq 0 (by omega) 0 _ rfl)
    have cell : ∀ (i : Nat) (hi : i < ((List.range len).map q).length) (j : Nat) (u : Value), (fdV ((List.range len).map q)[i])[j]? = some u → w.cell? ⟨b, off + i * 5 + j, none⟩ = some u := by
      intro i hi j u hj
      have hi' : i < len := by rw [hplen] at hi; exact hi
      rw [List.getElem_map, List.getElem_range] at hj
      have e := hq i hi' j u hj
      rw [hspot (by omega), add_plainT] at e
      rw [Nat.add_assoc]
      exact e
    refine ⟨(List.range len).map q, some ⟨b, off, spot⟩, b, off, cap, by rw [hv, hplen], ⟨fun z => ?_, fun z => ?_, fun i hi j u hj => cell i hi j u hj⟩, fun z => absurd z (by simp), ?_⟩
    · rw [hplen] at z
      rw [hspot z]
    · have := cell 0 (by omega) 0 _ rfl
      exact World.block_lt_of_cell? w _ this
    · right
      exact ⟨_, _, by rw [hx], by simp⟩
theorem ownKInspectVerdicts : ownKnob Try.prog.godebug = none := by kernel_rfl
set_option maxRecDepth 100000 in
theorem liftedInspectVerdicts (os : Os) (started : os.Started) (H : Type) (enc : TypeId × Value → H) :
    ReturnsInHanded {} Try.checked os 3 .any (Rows.inspectVerdictsSpec.pre6 enc Try.prog Try.f3 Rows.inspectVerdictsRow.domain false) (Rows.inspectVerdictsSpec.post enc Try.prog Try.f3 false true false false) := by
  refine returnsInHanded_of_change_sized (C := Try.checked) ownKInspectVerdicts started (by kernel_rfl) Try.func3
    (ChangeSpec.witness6 (enc := enc) (C := Try.checked) false ⟨#[], #[.slice none 0 0], []⟩ 8 (by kernel_rfl) (by kernel_rfl) (by kernel_rfl) (by kernel_rfl)) ?_
  intro W base args ds gs before hval0 hW hcnd hsz _
  have hval : ∀ (j : Nat) t v, Try.f3.params[j]? = some t → args[j]? = some v → Value.okWide Try.prog W .any base t v := hval0
  have hW' := hW
  obtain ⟨p, q, hA0, hV, rfl, hfz, hnd⟩ := hW
  have hA : DataW.TrodAll enc Try.prog W 0 (fun _ => true) true Try.f3.params.toList args.toList ds p := hA0
  rw [Try.params3] at hA hval hsz
  obtain ⟨v0, vs0, d0, ds0, p0, q0, hargs0, rfl, rfl, h0, r0⟩ := trodAll_cons hA
  obtain ⟨rfl, rfl, rfl⟩ := trodAll_nil r0
  obtain rfl : args = #[v0] := by cases args; simp_all
  obtain ⟨rfl, rfl⟩ := trodVars_none hV
  have h0k := h0
  obtain ⟨aa0, len0, cap0, rfl⟩ := okWide_slice Try.underlying22 (hval 0 22 v0 rfl rfl)
  obtain ⟨fuel0, hf0⟩ := h0
  clear hA0 hval0
  simp only [List.append_nil] at hW'
  have hlt0 : ∀ x ∈ p0, x.block < W.heap.size := fun x hx => hW'.lt x (by simp [hx])
  obtain ⟨cs0, ao0, b0, o0, cap0', hv0, hN0, hn0, hs0⟩ := open_fds (v := .slice aa0 len0 cap0) hf0 hlt0
  have hl0 : cs0.length ≤ 2932031007317 := by
    rcases hs0 with e | ⟨elems, spare, e, e'⟩
    · omega
    · have hw := sized_slice hsz (j := 0) (e := 27) rfl (by rw [← e]; rfl) Try.underlying22
      rw [show Try.checked.prog.bytesOf 27 = 48 from by kernel_rfl, show reachBytes = 140737488351232 from rfl] at hw
      omega
  rw [hv0] at h0k hW' ⊢
  refine (verdicts_any hN0 hn0 hl0).mono fun e W' ⟨he, hk⟩ => ?_
  have hnx := hk.below
  subst he
  refine ⟨_, rfl, _, _, _, [], p0, [], hW', trodAll_cons_mk (shut_bool Try.underlying4 _) trodAll_mk0, ?_, rfl, hnx.frame _, fun h => by cases h⟩
  have k := (trodAll_cons_mk (Below.trod laidOutP (by kernel_rfl) (of_decide_eq_true (by kernel_rfl)) h0k hnx hlt0) trodAll_mk0)
  simp only [List.append_nil] at k
  exact k
end Go.Proofs.Ytedfonpmjengkaa.Cn
namespace Go.Proofs.Ytedfonpmjengkaa
open Go.ChangeShapes Go.WideShapes Go.ChangeAt Go.RowKit Go.Deep
theorem proved : Rows.InspectVerdictsSaid :=
  OpenClaim.holds_of_wide 3 Try.f3 rfl rfl rfl rfl rfl rfl rfl ⟨rfl, rfl, rfl, rfl, rfl⟩ rfl rfl rfl rfl rfl (by kernel_rfl) Try.func3 (by kernel_rfl)
    (of_decide_eq_true (by kernel_rfl)) (by unfold Func.isWrapper; first | (rw [if_pos (by decide +kernel)]; kernel_rfl) | (rw [if_neg (by decide +kernel)]; exact ⟨rfl, rfl⟩))
    (fun os started H enc _ => Cn.liftedInspectVerdicts os started H enc)
end Go.Proofs.Ytedfonpmjengkaa
