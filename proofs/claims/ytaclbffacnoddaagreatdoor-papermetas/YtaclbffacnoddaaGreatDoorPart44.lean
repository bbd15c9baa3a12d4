import Derived.Test.YtaclbffacnoddaaGreatDoorRows
import Derived.Test.YtaclbffacnoddaaGreatDoorPmBack
import Derived.Lib.SmallJoins
import Derived.ProofKit
import Derived.OpenShut
import Derived.SizedLaws
import Derived.Test.YtaclbffacnoddaaGreatDoorPart42
namespace Go.Proofs.YtaclbffacnoddaaGreatDoor
open Go.ChangeShapes Go.WideShapes Go.ChangeAt Go.RowKit
theorem cellsMeta : Tryz.prog.cellsOf 23 = 8 := by kernel_rfl
theorem cells9M : Tryz.prog.cellsOf 9 = 1 := by kernel_rfl
theorem cells3M : Tryz.prog.cellsOf 3 = 1 := by kernel_rfl
theorem i64_of {n : Int} (h : (Lit.int .i64 n).wf = true) : I64 n := by
  simp [Lit.wf, IntKind.min, IntKind.max, IntKind.signed, IntKind.bits] at h
  unfold I64
  omega
theorem list8 {α : Type} {l : List α} (h : l.length = 8) : ∃ a0 a1 a2 a3 a4 a5 a6 a7, l = [a0, a1, a2, a3, a4, a5, a6, a7] := by
  match l, h with
  | [a0, a1, a2, a3, a4, a5, a6, a7], _ => exact ⟨a0, a1, a2, a3, a4, a5, a6, a7, rfl⟩
theorem array8 {α : Type} {l : Array α} (h : l.size = 8) : ∃ a0 a1 a2 a3 a4 a5 a6 a7, l = #[a0, a1, a2, a3, a4, a5, a6, a7] := by
  obtain ⟨l⟩ := l
  obtain ⟨a0, a1, a2, a3, a4, a5, a6, a7, h⟩ := list8 (l := l) (by simpa using h)
  exact ⟨a0, a1, a2, a3, a4, a5, a6, a7, by rw [h]⟩
set_option maxRecDepth 100000 in
set_option maxHeartbeats 1000000 in
/-- a meta that is handed in -/
theorem open_meta {H : Type} {enc : TypeId × Value → H} {w : World} {r : Reach} {b0 base : Nat} {spare : Nat → Bool} {held : Bool} {v : Value} {d : DataW H} {p : List MemPlace} (hv : Value.okWide Tryz.prog w r b0 23 v) (h : DataW.Trod enc Tryz.prog w base spare held 23 v d p) :
    ∃ (st : ByteArray) (n1 n2 n3 n4 n5 n6 n7 : Int), v = .agg #[.string st, .int .i64 n1, .int .i64 n2, .int .i64 n3, .int .i64 n4, .int .i64 n5, .int .i64 n6, .int .i64 n7] ∧ p = [] ∧ st.size ≤ maxLen ∧ I64 n1 ∧ I64 n2 ∧ I64 n3 ∧ I64 n4 ∧ I64 n5 ∧ I64 n6 ∧ I64 n7 := by
  obtain ⟨cs, rfl, hsz⟩ := okWide_struct Tryz.underlying23 hv
  obtain ⟨c0, c1, c2, c3, c4, c5, c6, c7, rfl⟩ := array8 (hsz.trans cellsMeta)
  obtain ⟨fuel, hf⟩ := h
  obtain ⟨xs, n, _, hx, _, hxl, hq⟩ := DataW.trod_struct Tryz.underlying23 hf
  obtain ⟨y0, y1, y2, y3, y4, y5, y6, y7, rfl⟩ := list8 hxl
  have g0 := hq 0 _ rfl
  have g1 := hq 1 _ rfl
  have g2 := hq 2 _ rfl
  have g3 := hq 3 _ rfl
  have g4 := hq 4 _ rfl
  have g5 := hq 5 _ rfl
  have g6 := hq 6 _ rfl
  have g7 := hq 7 _ rfl
  simp [Value.cells, cells9M, cells3M] at g0 g1 g2 g3 g4 g5 g6 g7
  obtain ⟨st, f0, z0, w0⟩ := DataW.trod_string Tryz.underlying9 g0
  obtain ⟨n1, f1, z1, w1⟩ := DataW.trod_int Tryz.underlying3 g1
  obtain ⟨n2, f2, z2, w2⟩ := DataW.trod_int Tryz.underlying3 g2
  obtain ⟨n3, f3, z3, w3⟩ := DataW.trod_int Tryz.underlying3 g3
  obtain ⟨n4, f4, z4, w4⟩ := DataW.trod_int Tryz.underlying3 g4
  obtain ⟨n5, f5, z5, w5⟩ := DataW.trod_int Tryz.underlying3 g5
  obtain ⟨n6, f6, z6, w6⟩ := DataW.trod_int Tryz.underlying3 g6
  obtain ⟨n7, f7, z7, w7⟩ := DataW.trod_int Tryz.underlying3 g7
  simp only [List.cons.injEq, and_true] at f0 f1 f2 f3 f4 f5 f6 f7
  subst f0 f1 f2 f3 f4 f5 f6 f7
  simp only [Prod.mk.injEq] at hx
  refine ⟨st, n1, n2, n3, n4, n5, n6, n7, rfl, ?_, ?_, i64_of w1, i64_of w2, i64_of w3, i64_of w4, i64_of w5, i64_of w6, i64_of w7⟩
  · rw [hx.2, z0, z1, z2, z3, z4, z5, z6, z7]; rfl
  · exact w0
end Go.Proofs.YtaclbffacnoddaaGreatDoor
namespace Go.Proofs.YtaclbffacnoddaaGreatDoor
open Go.RowKit Go.Shelf
def isStC (c : UInt8) : Bool := isLow c || isDig c || c == 45
theorem st_class : ∀ n : Fin 256, stL.data.toList.contains (UInt8.ofNat n.1) = isStC (UInt8.ofNat n.1) ∧ ltL.data.toList.contains (UInt8.ofNat n.1) = isLow (UInt8.ofNat n.1) := by decide +kernel
theorem st_in (c : UInt8) : stL.data.toList.contains c = isStC c ∧ ltL.data.toList.contains c = isLow c := by
  have := st_class ⟨c.toNat, c.toNat_lt⟩
  simp only [UInt8.ofNat_toNat] at this
  exact this
theorem stA_snoc (t : ByteArray) (k : Nat) (h : k < t.size) : (t.data.toList.take (k + 1)).all isStC = ((t.data.toList.take k).all isStC && isStC t[k]) := by
  rw [List.take_succ_eq_append_getElem (by simpa using h), List.all_append]
  simp
  rfl
theorem stA_false (t : ByteArray) (k : Nat) (h : k < t.size) (hc : isStC t[k] = false) : t.data.toList.all isStC = false := by
  rw [List.all_eq_false]
  exact ⟨t[k], by have : t[k] = t.data.toList[k]'(by simpa using h) := rfl; rw [this]; exact List.getElem_mem _, by rw [hc]; simp⟩
theorem stOk_eq (t : ByteArray) (h0 : 0 < t.size) : stOk t 1 40 = (decide (t.size ≤ 40) && isLow t[0] && t.data.toList.all isStC) := by
  unfold stOk inR isSt allOf
  have e0 : t.data.toList.isEmpty = false := by
    cases hd : t.data.toList with
    | nil => rw [← size_data, hd] at h0; simp at h0
    | cons a b => rfl
  have e1 : (t.data.toList.take 1).all (fun c => ltL.data.toList.contains c) = isLow t[0] := by
    rw [List.take_succ_eq_append_getElem (by simpa using h0)]
    simp only [List.take_zero, List.nil_append, List.all_cons, List.all_nil, Bool.and_true]
    exact (st_in _).2
  have e2 : (t.data.toList.all fun c => stL.data.toList.contains c) = t.data.toList.all isStC := by
    congr 1; funext c; exact (st_in c).1
  rw [e0, e1, e2, decide_eq_true (show (1 : Int) ≤ (t.size : Int) by omega)]
  have e3 : decide ((t.size : Int) ≤ 40) = decide (t.size ≤ 40) := by rw [decide_eq_decide]; omega
  rw [e3]
  simp [Bool.and_assoc]
set_option maxHeartbeats 2000000 in
set_option maxRecDepth 100000 in
/-- the document's store -/
theorem rstore_any (t : ByteArray) (w : World) :
    Calls Tryz.prog 78 #[.string t] w fun e w' => e = .returned (.bool (stOk t 1 40)) ∧ w = w' := by
  by_cases h1 : t.size = 0
  · have e1 : stOk t 1 40 = false := by unfold stOk inR; rw [h1]; rfl
    rw [e1]
    go_enter Tryz.func78, Tryz.ntmps78
    go_wp2_with fail
    go_ret
    exact ⟨rfl, rfl⟩
  · have HE := hide (stOk_eq t (by omega))
    obtain ⟨E, hE⟩ : ∃ E, E = stOk t 1 40 := ⟨_, rfl⟩
    rw [← hE] at HE ⊢
    clear hE
    have h1' : ¬ (t.size : Int) < 1 := by omega
    by_cases h2 : 40 < t.size
    · have h2' : (40 : Int) < (t.size : Int) := by omega
      go_enter Tryz.func78, Tryz.ntmps78
      go_wp2_with fail
      go_ret
      exact ⟨ret_bool (by rw [HE.out, decide_eq_false (by omega)]; rfl), rfl⟩
    · have h2' : ¬ (40 : Int) < (t.size : Int) := by omega
      have hx0 : ∀ w', (Instr.index 9 (.string t) (.int .i64 0)).run Tryz.prog w' = .ok (.int .u8 ((t[0]'(by omega)).toNat : Int)) w' := fun w' => ix_str w' t 0 (by omega)
      have HE2 : Hid (E = (isLow (t[0]'(by omega)) && t.data.toList.all isStC)) := by show _ = _; rw [HE.out, decide_eq_true (by omega)]; rfl
      clear HE
      generalize (t[0]'(by omega)) = c0 at *
      by_cases ha : c0.toNat < 97
      · have ha' : (c0.toNat : Int) < 97 := by omega
        go_enter Tryz.func78, Tryz.ntmps78
        go_wp2_with fail
        go_ret
        exact ⟨ret_bool (by rw [HE2.out]; unfold isLow; rw [decide_eq_false (by omega)]; rfl), rfl⟩
      · have ha' : ¬ (c0.toNat : Int) < 97 := by omega
        by_cases hb : 122 < c0.toNat
        · have hb' : (122 : Int) < (c0.toNat : Int) := by omega
          go_enter Tryz.func78, Tryz.ntmps78
          go_wp2_with fail
          go_ret
          exact ⟨ret_bool (by rw [HE2.out]; unfold isLow; rw [decide_eq_false (p := c0.toNat ≤ 122) (by omega)]; simp), rfl⟩
        · have hb' : ¬ (122 : Int) < (c0.toNat : Int) := by omega
          have HE3 : Hid (E = t.data.toList.all isStC) := by show _ = _; rw [HE2.out]; unfold isLow; rw [decide_eq_true (by omega), decide_eq_true (by omega)]; rfl
          clear HE2
          go_enter Tryz.func78, Tryz.ntmps78
          go_wp2_with fail
          clear hx0 ha' hb' ha hb
          go_loop [3] (fun v => ∃ k : Nat, k ≤ t.size ∧ v = .int .i64 k ∧ Hid ((t.data.toList.take k).all isStC = true)) (fun v => t.size - (intOf v).toNat)
          case atStart => exact ⟨0, Nat.zero_le _, rfl, rfl⟩
          case round =>
            obtain ⟨k, hk, rfl, hA⟩ := hrel
            by_cases hlt : k < t.size
            · have hxs : ∀ w', (Instr.index 9 (.string t) (.int .i64 (k : Int))).run Tryz.prog w' = .ok (.int .u8 (t[k].toNat : Int)) w' := fun w' => ix_str w' t k hlt
              have HS := hide (stA_snoc t k hlt)
              have HF := hide (stA_false t k hlt)
              generalize t[k] = c at *
              have hlt' : (k : Int) < (t.size : Int) := by omega
              by_cases hl : 97 ≤ c.toNat ∧ c.toNat ≤ 122
              · have x1 : (97 : Int) ≤ (c.toNat : Int) := by omega
                have x2 : (c.toNat : Int) ≤ 122 := by omega
                have hC : Hid (isStC c = true) := by show _ = _; unfold isStC isLow; rw [decide_eq_true hl.1, decide_eq_true hl.2]; rfl
                clear hl
                go_wp2_with fail
                go_round
                case rel => exact ⟨k + 1, by omega, by go_num, by rw [HS.out, hA.out, hC.out]; rfl⟩
                case measure => simp [intOf]; omega
              · by_cases hd : 48 ≤ c.toNat ∧ c.toNat ≤ 57
                · have x1 : ¬ (97 : Int) ≤ (c.toNat : Int) := by omega
                  have x3 : (48 : Int) ≤ (c.toNat : Int) := by omega
                  have x4 : (c.toNat : Int) ≤ 57 := by omega
                  have hC : Hid (isStC c = true) := by show _ = _; unfold isStC isDig; rw [decide_eq_true hd.1, decide_eq_true hd.2]; simp
                  clear hl hd
                  go_wp2_with fail
                  go_round
                  case rel => exact ⟨k + 1, by omega, by go_num, by rw [HS.out, hA.out, hC.out]; rfl⟩
                  case measure => simp [intOf]; omega
                · by_cases h45 : c.toNat = 45
                  · have x1 : ¬ (97 : Int) ≤ (c.toNat : Int) := by omega
                    have x3 : ¬ (48 : Int) ≤ (c.toNat : Int) := by omega
                    have x5 : ((c.toNat : Int) == 45) = true := by rw [h45]; rfl
                    have hC : Hid (isStC c = true) := by
                      show _ = _
                      have : c = 45 := UInt8.toNat_inj.1 h45
                      rw [this]; rfl
                    clear hl hd h45
                    go_wp2_with fail
                    go_round
                    case rel => exact ⟨k + 1, by omega, by go_num, by rw [HS.out, hA.out, hC.out]; rfl⟩
                    case measure => simp [intOf]; omega
                  · have x5 : ((c.toNat : Int) == 45) = false := beq_eq_false_iff_ne.2 (by omega)
                    have hC : Hid (isStC c = false) := by
                      show _ = _
                      unfold isStC isLow isDig
                      have e1 : (decide (97 ≤ c.toNat) && decide (c.toNat ≤ 122)) = false := by rw [← Bool.decide_and]; exact decide_eq_false hl
                      have e2 : (decide (48 ≤ c.toNat) && decide (c.toNat ≤ 57)) = false := by rw [← Bool.decide_and]; exact decide_eq_false hd
                      have e3 : (c == 45) = false := beq_eq_false_iff_ne.2 (fun e => h45 (by rw [e]; rfl))
                      rw [e1, e2, e3]; rfl
                    by_cases y1 : 97 ≤ c.toNat
                    · have x1 : (97 : Int) ≤ (c.toNat : Int) := by omega
                      have x2 : ¬ (c.toNat : Int) ≤ 122 := by omega
                      have x3 : (48 : Int) ≤ (c.toNat : Int) := by omega
                      have x4 : ¬ (c.toNat : Int) ≤ 57 := by omega
                      clear hl hd h45 y1
                      go_wp2_with fail
                      go_ret
                      exact ⟨ret_bool (by rw [HE3.out, HF.out hC.out]), rfl⟩
                    · have x1 : ¬ (97 : Int) ≤ (c.toNat : Int) := by omega
                      by_cases y2 : 48 ≤ c.toNat
                      · have x3 : (48 : Int) ≤ (c.toNat : Int) := by omega
                        have x4 : ¬ (c.toNat : Int) ≤ 57 := by omega
                        clear hl hd h45 y1 y2
                        go_wp2_with fail
                        go_ret
                        exact ⟨ret_bool (by rw [HE3.out, HF.out hC.out]), rfl⟩
                      · have x3 : ¬ (48 : Int) ≤ (c.toNat : Int) := by omega
                        clear hl hd h45 y1 y2
                        go_wp2_with fail
                        go_ret
                        exact ⟨ret_bool (by rw [HE3.out, HF.out hC.out]), rfl⟩
            · obtain rfl : k = t.size := by omega
              have hA' := hA.out
              rw [List.take_of_length_le (by simp)] at hA'
              have HA := hide hA'
              clear hA' hA
              go_wp2_with fail
              go_ret
              exact ⟨ret_bool (by rw [HE3.out, HA.out]), rfl⟩
end Go.Proofs.YtaclbffacnoddaaGreatDoor
