import Derived.Test.YtkhjfaphadmioaaRows
import Derived.Test.YtkhjfaphadmioaaRpRecs
import Derived.ProofKit
import Derived.OpenShut
import Derived.JoinedOf
import Derived.SizedLaws
import Derived.SliceStrings
import Derived.Deep.SlicePairs
import Derived.Deep.DeepHandedRow
namespace Go.Proofs.Ytkhjfaphadmioaa
open Go.ChangeShapes Go.WideShapes Go.ChangeAt Go.RowKit Go.Deep
theorem ownKR : ownKnob Try.prog.godebug = none := by kernel_rfl
theorem laidOutP : laidOutB Try.prog = true := by kernel_rfl
def strV : Value → ByteArray
  | .string s => s
  | _ => ⟨#[]⟩
theorem cellsPair : Try.prog.cellsOf 77 = 2 := by kernel_rfl
theorem cells9P : Try.prog.cellsOf 9 = 1 := by kernel_rfl
theorem bytesPair : Try.prog.bytesOf 77 = 32 := by kernel_rfl
set_option maxRecDepth 100000 in
theorem liftedRecords (os : Os) (started : os.Started) (H : Type) (enc : TypeId × Value → H) :
    ReturnsInHanded {} Try.checked os 7 .any (Rows.recordRecordsSpec.pre6 enc Try.prog Try.f7 Rows.recordRecordsRow.domain false) (Rows.recordRecordsSpec.post enc Try.prog Try.f7 false true false false) := by
  refine returnsInHanded_of_change_sized (C := Try.checked) ownKR started (by kernel_rfl) Try.func7
    (ChangeSpec.witness6 (enc := enc) (C := Try.checked) false ⟨#[], #[.slice none 0 0], []⟩ 8 (by kernel_rfl) (by kernel_rfl) (by kernel_rfl) (by kernel_rfl)) ?_
  intro W base args ds gs before hval0 hW hcnd hsz _
  have hval : ∀ (j : Nat) t v, Try.f7.params[j]? = some t → args[j]? = some v → Value.okWide Try.prog W .any base t v := hval0
  have hW' := hW
  obtain ⟨p, q, hA0, hV, rfl, hfz, hnd⟩ := hW
  have hA : DataW.TrodAll enc Try.prog W 0 (fun _ => true) true Try.f7.params.toList args.toList ds p := hA0
  rw [Try.params7] at hA hval hsz
  obtain ⟨v0, vs0, d0, ds0, p0, q0, hargs, rfl, rfl, h0, r0⟩ := trodAll_cons hA
  obtain ⟨rfl, rfl, rfl⟩ := trodAll_nil r0
  obtain rfl : args = #[v0] := by cases args; simp_all
  obtain ⟨rfl, rfl⟩ := trodVars_none hV
  obtain ⟨a0, len, cap, rfl⟩ := okWide_slice Try.underlying41 (hval 0 41 v0 rfl rfl)
  have h0k := h0
  obtain ⟨fuel, hf⟩ := h0
  clear hA0 hval0
  simp only [List.append_nil] at hW'
  have hlt : ∀ x ∈ p0, x.block < W.heap.size := fun x hx => by simpa using hW'.lt x hx
  have fin : ∀ W', Below W.heap.size W W' → Rows.recordRecordsSpec.post enc Try.prog Try.f7 false true false false W #[.slice a0 len cap] (.bool true) W' := by
    intro W' hnx
    refine ⟨_, _, _, [], p0, [], hW', ?_, ?_, rfl, hnx.frame _, fun h => by cases h⟩
    · exact trodAll_cons_mk (shut_bool Try.underlying4 _) trodAll_mk0
    · exact trodAll_mk1 (Below.trod laidOutP (by kernel_rfl) (of_decide_eq_true (by kernel_rfl)) h0k hnx hlt)
  have walk : ∀ a b off cp ps, PairsAt W (.slice a0 len cap) a b off cp ps → (ps.length + 2) * 32 ≤ 140737488355328 → Calls Try.prog 7 #[.slice a0 len cap] W fun e W' => ∃ v, e = .returned v ∧ Rows.recordRecordsSpec.post enc Try.prog Try.f7 false true false false W #[.slice a0 len cap] v W' := by
    intro a b off cp ps hp hl
    refine (records_any _ a b off cp ps W hp hl).mono fun e W' ⟨he, hnx⟩ => ?_
    subst he
    exact ⟨_, rfl, fin _ hnx⟩
  rcases open_slice_pairs Try.underlying41 Try.underlying77 cellsPair rfl rfl cells9P cells9P hf with ⟨hcs, hx⟩ | ⟨a, len', cap', m, n, V0, V1, D0, D1, P0, P1, hcs, _, hl, hm, hmm, hx, hcell⟩
  · simp [Value.cells] at hcs
    obtain ⟨rfl, rfl, rfl⟩ := hcs
    exact walk ⟨0, 0, none⟩ 0 0 0 [] (.inl ⟨rfl, rfl⟩) (by simp)
  · simp [Value.cells] at hcs
    obtain ⟨rfl, rfl, rfl⟩ := hcs
    simp only [Prod.mk.injEq] at hx
    obtain ⟨rfl, rfl⟩ := hx
    have hw := sized_slice hsz (j := 0) (e := 77) rfl rfl Try.underlying41
    rw [show Try.checked.prog.bytesOf 77 = 32 from bytesPair, List.length_map, List.length_range] at hw
    simp only [if_true] at hmm
    have hml : len ≤ m := by omega
    have hr : reachBytes = 140737488351232 := rfl
    have hw2 : (len + 2) * 32 ≤ 140737488355328 := by
      rw [hr] at hw
      have h1 : len * 32 ≤ (len + ((List.range (m - len)).map fun j => DataW.agg [D0 (len + j), D1 (len + j)]).length) * 32 := Nat.mul_le_mul_right _ (Nat.le_add_right _ _)
      omega
    have hstr : ∀ i, i < m → V0 i = .string (strV (V0 i)) ∧ V1 i = .string (strV (V1 i)) := fun i hi => by
      obtain ⟨_, _, t0, t1⟩ := hcell i hi
      obtain ⟨s0, e0, _⟩ := DataW.trod_string Try.underlying9 t0
      obtain ⟨s1, e1, _⟩ := DataW.trod_string Try.underlying9 t1
      simp only [List.cons.injEq, and_true] at e0 e1
      rw [e0, e1]; exact ⟨rfl, rfl⟩
    have hplen : ((List.range len).map fun i => ((strV (V0 i), strV (V1 i)) : KV)).length = len := by simp
    have hspot : 0 < len → a.spot = none := fun h => by simpa [Addr.add] using World.cell?_spot (hcell 0 (by omega)).1
    obtain ⟨b, off, spot⟩ := a
    refine walk ⟨b, off, spot⟩ b off cap ((List.range len).map fun i => (strV (V0 i), strV (V1 i))) (.inr ⟨by rw [hplen], fun h => ?_, fun i hi => ?_⟩) (by rw [hplen]; exact hw2)
    · rw [hplen] at h
      have := hspot h
      simp only at this
      subst this
      exact ⟨rfl, hlt (.cell b off) (List.mem_append_left _ (MemPlace.mem_row.2 ⟨0, by omega, by simp⟩))⟩
    · rw [hplen] at hi
      have hs := hspot (by omega)
      simp only at hs
      subst hs
      obtain ⟨c0, c1, _⟩ := hcell i (by omega)
      rw [add_plain] at c0 c1
      rw [show off + i * 2 + 1 = off + (i * 2 + 1) by omega, c0, c1, List.getElem_map, List.getElem_range, ← (hstr i (by omega)).1, ← (hstr i (by omega)).2]
      exact ⟨rfl, rfl⟩
theorem proved : Rows.RecordRecordsSaid :=
  OpenClaim.holds_of_wide 7 Try.f7 rfl rfl rfl rfl rfl rfl rfl ⟨rfl, rfl, rfl, rfl, rfl⟩ rfl rfl rfl rfl rfl (by kernel_rfl) Try.func7 (by kernel_rfl)
    (of_decide_eq_true (by kernel_rfl)) (by unfold Func.isWrapper; first | (rw [if_pos (by decide +kernel)]; kernel_rfl) | (rw [if_neg (by decide +kernel)]; exact ⟨rfl, rfl⟩))
    (fun os started H enc _ => liftedRecords os started H enc)
end Go.Proofs.Ytkhjfaphadmioaa
