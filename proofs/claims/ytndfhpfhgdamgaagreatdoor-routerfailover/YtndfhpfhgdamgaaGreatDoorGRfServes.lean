import Derived.Test.YtndfhpfhgdamgaaGreatDoorGRfPure
import Derived.Test.YtndfhpfhgdamgaaGreatDoorGGkWalk
import Derived.Test.YtndfhpfhgdamgaaGreatDoorGGmTake
import Derived.Test.YtndfhpfhgdamgaaGreatDoorGRfOk
import Derived.Test.YtndfhpfhgdamgaaGreatDoorGGcTwin
namespace Go.Proofs.YtndfhpfhgdamgaaGreatDoor.Cn
open Go.RowKit
theorem Fv.kp {w : World} {base B ob oc : Nat} {ow : List Int} {M D : Int} {R : Nat} {c : Cl} {t now0 : Int} {m0 : Nat} {tk : Int} {wr w' : World} (h : Fv w base B ob oc ow M D R c t now0 m0 tk wr) (hk : Kp wr w' non) : Fv w base B ob oc ow M D R c t now0 m0 tk w' := by
  obtain ⟨S, v, wv, Y, m, a1, a2, a3, a4, a5, a6, a7, a8, a9⟩ := h
  exact ⟨S, v, wv, Y, m, a1.kp hk (fun _ f => f.elim) (fun f => f) (fun _ _ f => f), a2.kp hk (fun _ _ f => f), a3, a4, a5, a6, a7, a8, a9.trans (hk.toBelow (fun _ f => f.elim) (hbase a1))⟩
theorem Fv.mono {w : World} {base B ob oc : Nat} {ow : List Int} {M D : Int} {R : Nat} {c : Cl} {t now0 : Int} {m0 : Nat} {tk tk' : Int} {wr : World} (h : Fv w base B ob oc ow M D R c t now0 m0 tk wr) (hk : tk ≤ tk') : Fv w base B ob oc ow M D R c t now0 m0 tk' wr := by
  obtain ⟨S, v, wv, Y, m, a1, a2, a3, a4, a5, a6, a7, a8, a9⟩ := h
  exact ⟨S, v, wv, Y, m, a1, a2, a3, a4, by omega, a6, by omega, a8, a9⟩
theorem may_one {key : ByteArray} (hk : ¬ (key.size = 0 ∨ 255 < key.size)) : mayE 0 [key] = 0 := by
  have : badK key = false := decide_eq_false hk
  simp [mayE, this]
theorem Fv.mutes {w : World} {base B ob oc : Nat} {ow : List Int} {M D : Int} {R : Nat} {c : Cl} {t now0 : Int} {m0 : Nat} {tk : Int} {wr : World} (h : Fv w base B ob oc ow M D R c t now0 m0 tk wr) : wr.cell? ⟨B, 1, none⟩ = some (.int .i64 M) := by
  obtain ⟨S, v, wv, Y, m, a1, _⟩ := h
  exact a1.cells.2.1
theorem Sv.bound {w : World} {base B ob oc : Nat} {ow : List Int} {M D : Int} {R : Nat} {c : Cl} {od : List Int} {key : ByteArray} {t now0 : Int} {m0 i : Nat} {wr : World} (h : Sv w base B ob oc ow M D R c od key t now0 m0 i wr) : (i : Int) < c.x 0 * c.x 17 := by
  obtain ⟨S, P, v, wv, Y, g, hx, hs, hg⟩ := h
  exact hg.lt hs.ok
set_option maxHeartbeats 16000000 in
set_option maxRecDepth 100000 in
set_option linter.unusedSimpArgs false in
set_option linter.unusedVariables false in
theorem serves_any {w : World} {base B ob oc : Nat} {ow : List Int} {M D : Int} {wv : Value} {Y : List Lt} (hx : StX w base B ob oc ow M D wv Y) {S : Nat → Prop} {R : Nat} {c : Cl} {v : Rv} {m0 : Nat} (hr : RtAt w S R c [] v) (hSb : ∀ k, S k → base ≤ k) (h3 : 3 ≤ base) (hok : Ok c [] v m0) (hT : TabD w) (key : ByteArray) (hk : ¬ (key.size = 0 ∨ 255 < key.size)) (how : ow = ownsOf c key) (hD0 : 0 ≤ D) (hD : D < c.x 17) (hm : m0 + 40000 ≤ 90000000000000) (hl : v.last ≤ 100000000000) (hn : v.now ≤ 800000000000000) (hdn : v.d.now = v.now) (tk : Int) (htk : tk = c.x 0 * c.x 17) :
    Calls Tryz.prog 16 #[.pointer (some ⟨B, 0, none⟩), .pointer (some ⟨R, 0, none⟩), .string key, .int .i64 tk] w fun e w' => e = .returned (.bool true) ∧ Fv w base B ob oc ow M D R c (v.last + 1) v.now m0 tk w' := by
  obtain ⟨od, hod⟩ : ∃ od, od = ordL v.d (baseOf c key) := ⟨_, rfl⟩
  obtain ⟨t, ht⟩ : ∃ t, t = v.last + 1 := ⟨_, rfl⟩
  obtain ⟨now0, hn0⟩ : ∃ now0, now0 = v.now := ⟨_, rfl⟩
  have hl0 := hok.last0
  have hnn := hok.now0
  have hwt := hok.wt
  have hb := hbase hx
  obtain ⟨o1, o2, o3, o4, o5, o6⟩ := owns_ok hok.err key
  have n16 : c.ns.length ≤ 16 := by rw [← hok.dn]; exact hok.up.ft.n16
  have ODM : Hid (Od c od ow) := ⟨fun z => by rw [hod, how]; exact od_mem hok key z, fun z hz => by
    rw [hod] at hz
    have := o2 z ((od_mem hok key z).1 hz)
    omega⟩
  have hol : ow.length ≤ 16 := by rw [how]; omega
  have hol1 : 1 ≤ ow.length := by rw [how]; omega
  have htk0 : 1 ≤ tk ∧ tk ≤ 16384 := by
    have a : 1 * 1 ≤ c.x 0 * c.x 17 := Int.mul_le_mul o4 hwt.1 (by omega) (by omega)
    have b : c.x 0 * c.x 17 ≤ 16 * 1024 := Int.mul_le_mul o5 hwt.2 (by omega) (by omega)
    omega
  obtain ⟨x1, k1⟩ := hx.putn
  obtain ⟨nB, nW⟩ := hx.not hr
  obtain ⟨W1, hW1⟩ : ∃ W1, W1 = w.setCell ⟨B, 3, none⟩ (.slice none 0 0) := ⟨_, rfl⟩
  rw [← hW1] at x1 k1
  have r1 : RtAt W1 S R c [] v := hr.kp k1 (fun k q e => nB (e ▸ q))
  have T1 : TabD W1 := tab_kp hT k1 (fun k e => by rw [e]; exact Nat.le_trans h3 hx.ge)
  have GT := hide (Get_any r1 (m := m0) hok T1 (fun k q => Nat.le_trans h3 (hSb k q)) (by omega) key (by omega) (may_one hk))
  have b1 : Below base w W1 := k1.toBelow (fun k e => by rw [e]; exact hx.ge) hb
  have hb1 := hbase x1
  have okO := hok.opened [key] (by simp)
  have SEND : Hid (∀ W2 S' P' vo, RtAt W2 S' R c P' { v with last := v.last + 1 } → P'.map (·.g) = [] ++ opG c v [key] (v.last + 1) → W2.ownsRow W1.heap.size 58 11 vo (opG c v [key] (v.last + 1)).length (mgs ((opG c v [key] (v.last + 1)).map getMg)) → Kp W1 W2 S → (∀ k, S' k → S k ∨ W1.heap.size ≤ k) → Calls Tryz.prog 38 #[.pointer (some ⟨B, 0, none⟩), vo, .int .i64 t] W2 fun e w' => e = .returned (.bool true) ∧ Sv w base B ob oc ow M D R c od key t now0 m0 0 w') := fun W2 S' P' vo r2 g2 o2' k2 s2 => by
    have x2 := x1.kp k2 hSb nB (fun k e => by simp [Value.ownBlock] at e)
    have hl2 : lastA ⟨v.last + 1, key, od, 1, v.now⟩ ∈ od := last_mem (g := ⟨v.last + 1, key, od, 1, v.now⟩) (by show 1 ≤ 1; omega) (by
      show 1 ≤ od.length
      have e : od.length = ow.length := by rw [hod, how]; exact ((ord_perm hok.up.ft hok.enb (baseOf c key)).trans (rowOf_perm c (ownsOf c key))).length_eq
      omega)
    have S0 := sends_any (L := [getMg ⟨v.last + 1, key, od, 1, v.now⟩]) (Y := []) x2 (by rw [hod]; exact o2') (by simp) (by omega) t (fun k hk h1 => by
      have : k < 1 := hk
      omega) (fun _ _ => ⟨rfl, (ODM.out.mem _).1 hl2, ODM.out.rng _ hl2⟩)
    refine Calls.mono S0 ?_
    rintro e w' ⟨rfl, wv', x3, k3⟩
    obtain ⟨n1, n2⟩ := x2.not r2
    have sg := Sg.start (od := od) (key := key) (W := c.x 17) (M := M) (D := D) (v := v) hwt.1 hD0 hdn
    rw [ht, hn0]
    rw [ht] at x3
    refine ⟨rfl, S', P', _, wv', _, _, x3, ⟨r2.kp k3 (fun k q e => e.elim (fun e => n1 (e ▸ q)) (fun e => n2 k e q)), fun k q => ?_, ?_, ?_, ?_⟩, sg⟩
    · rcases s2 k q with q | q
      · exact hSb k q
      · omega
    · rw [g2, hod]
      rfl
    · rw [hod]
      exact okO
    · exact (b1.trans (k2.toBelow hSb hb1)).trans (k3.toBelow (fun k e => e.elim (fun e => by rw [e]; exact hx.ge) (fun e => by simp [Value.ownBlock] at e)) (hbase x2))
  have c3 := hx.cells.2.2.2
  have f3 := hx.fz 3
  have NU := hide fun w n => num_r w n
  have HM := hide hm
  have HL : Hid (0 ≤ t ∧ t ≤ 1000000000000) := by show _ ∧ _; omega
  have HNW : Hid (now0 ≤ 800000000000000) := by show _ ≤ _; omega
  have HTK := hide htk
  have HD := hide (And.intro hD0 hD)
  rw [← ht, ← hn0]
  rw [← ht] at GT
  have HH := hide (And.intro ht hn0)
  clear hx hr hSb hok hT hk how hD0 hD hm hl hn hdn htk hod hl0 hnn hwt hb o1 o2 o3 o4 o5 o6 n16 x1 k1 nB nW r1 T1 b1 hb1 okO ht hn0
  go_enter Tryz.func16, Tryz.ntmps16
  go_upto_region 2 with fail
  rw [← hW1]
  clear hW1 c3 f3
  go_wp2_with fail
  refine Calls.mono GT.out ?_
  rintro e W2 ⟨S', P', vo, rfl, r2, g2, o2', k2, s2⟩
  rw [HH.out.1] at r2 g2 o2'
  have SN := hide (SEND.out W2 S' P' vo r2 g2 o2' k2 s2)
  clear r2 g2 o2' k2 s2 GT SEND
  go_upto_region 5 with (first | (go_at_call 8; refine Calls.mono (NU.out _ _) ?_; rintro e w' ⟨rfl, rfl⟩) | (go_at_call 38; refine Calls.mono SN.out ?_; rintro e W3 ⟨rfl, s3⟩; have HS3 := hide s3; clear s3))
  clear SN
  obtain ⟨S3, P3, v3, wv3, Y3, g3, x3, _, _⟩ := HS3.out
  have c0 := x3.cells.1
  have OWN := hide x3.own
  have MU := hide fun n h0 h1 => mute_any (w := W3) (B := B) M n x3.cells.2.1 h0 h1
  have hol' : (ow.length : Int) ≤ 16 := by omega
  clear x3
  go_wp2_with fail
  go_loopw [12, 13] (fun v12 v13 wt => W3 = wt ∧ ∃ k : Nat, k ≤ ow.length ∧ v13 = .int .i64 (k : Int) ∧ v12 = .bool ((ow.take k).any fun z => !mtB M z)) (fun _ v13 _ => ow.length - (intOf v13).toNat)
  case atStart => exact ⟨rfl, 0, Nat.zero_le _, rfl, rfl⟩
  case round =>
    obtain ⟨rfl, k, hk, rfl, rfl⟩ := hrel
    by_cases hkn : k < ow.length
    case pos =>
      have hkk : (k : Int) < (ow.length : Int) := by omega
      have ck := OWN.out k hkn
      have hr := ODM.out.rng (atL ow k) ((ODM.out.mem _).2 (by rw [atL_get hkn]; exact List.getElem_mem _))
      have MU1 := hide (MU.out (atL ow k) hr.1 hr.2)
      have HT : Hid (((ow.take (k + 1)).any fun z => !mtB M z) = (((ow.take k).any fun z => !mtB M z) || !mtB M (atL ow k))) := by
        show _ = _
        rw [List.take_add_one, List.any_append, List.getElem?_eq_getElem hkn, atL_get hkn]
        simp
      generalize ((ow.take k).any fun z => !mtB M z) = b8 at *
      generalize mtB M (atL ow k) = mb at *
      generalize atL ow k = zk at *
      clear hr
      cases b8
      · go_wp2_with (go_at_call 39; refine Calls.mono MU1.out ?_; rintro e w' ⟨rfl, rfl⟩)
        exact ⟨⟨trivial, k + 1, by omega, by go_num, by rw [HT.out]; cases mb <;> rfl⟩, by simp [intOf]; omega⟩
      · go_wp2_with fail
        exact ⟨⟨trivial, k + 1, by omega, by go_num, by rw [HT.out]; rfl⟩, by simp [intOf]; omega⟩
    case neg =>
      obtain rfl : k = ow.length := by omega
      rw [List.take_length]
      have HSM : Hid (∀ sm, sm = (ow.any fun z => !mtB M z) → ((∀ z ∈ od, mtB M z = true) → sm = false) ∧ (∀ z ∈ ow, mtB M z = false → sm = true)) := fun sm hsm => by
        subst hsm
        refine ⟨fun h => ?_, fun z hz h => ?_⟩
        · rw [List.any_eq_false]
          intro z hz
          rw [h z ((ODM.out.mem z).2 hz)]
          simp
        · rw [List.any_eq_true]
          exact ⟨z, hz, by rw [h]; rfl⟩
      obtain ⟨sm, hsm⟩ : ∃ sm, sm = (ow.any fun z => !mtB M z) := ⟨_, rfl⟩
      have SM := hide (HSM.out sm hsm)
      rw [← hsm]
      clear hsm HSM
      go_upto_region 10 with fail
      clear c0 OWN MU
      go_wp2_with fail
      go_loopw [14] (fun v14 wt => ∃ i : Nat, v14 = .int .i64 (i : Int) ∧ Hid (Sv w base B ob oc ow M D R c od key t now0 m0 i wt)) (fun v14 _ => tk.toNat - (intOf v14).toNat)
      case atStart => exact ⟨0, rfl, HS3.out⟩
      case round =>
        obtain ⟨i, rfl, HS⟩ := hrel
        have hlt : (i : Int) < tk := by rw [HTK.out]; exact HS.out.bound
        have q1 : decide ((i : Int) ≤ tk) = true := decide_eq_true (by omega)
        have q2 : decide ((i : Int) < tk) = true := decide_eq_true hlt
        have hmi : m0 + 2 * i ≤ 90000000000000 := by have := HM.out; omega
        rcases HS.out.arrive ⟨HL.out.1, by have := HL.out.2; omega⟩ ODM.out with A1 | A2
        · have AR := hide A1
          clear A1
          go_wp2_with fail
          refine Calls.mono AR.out ?_
          rintro e W4 ⟨rfl, s4⟩
          have LT := hide (s4.later HD.out.2)
          clear s4 AR
          go_wp2_with fail
          refine Calls.mono LT.out ?_
          rintro e W5 ⟨rfl, s5⟩
          have TI := hide (s5.tick HD.out.1 HD.out.2 hmi (by have := HL.out.2; omega) (by have := HNW.out; omega) ODM.out)
          clear s5 LT
          go_wp2_with fail
          refine Calls.mono TI.out ?_
          rintro e W6 ⟨vo6, ve6, L6, Yd6, wv6, b6, rfl, ow6, ot6, x6, hc⟩
          have SN := hide (sends_any x6 ow6 ot6.len (by omega) t ot6.no ot6.yes)
          clear TI ow6 ot6 x6
          rcases hc with ⟨⟨a6, c6, rfl⟩, nx⟩ | ⟨⟨eg, ec, rfl, rg⟩, f1, f2, nx⟩
          · have NX := hide nx
            clear nx
            go_wp2_with (first | (go_at_call 8; refine Calls.mono (NU.out _ _) ?_; rintro e w' ⟨rfl, rfl⟩) | (go_at_call 38; refine Calls.mono SN.out ?_; rintro e W7 ⟨rfl, wv7, x7, k7⟩; have S7 := hide (NX.out W7 wv7 x7 k7); clear x7 k7))
            exact ⟨⟨i + 1, by go_num, S7.out⟩, by simp [intOf]; omega⟩
          · have NX := hide nx
            have RG := hide rg
            have hsm : sm = false := SM.out.1 f2
            have q4 : ((i : Int) == tk - 1) = true := by rw [HTK.out]; simp; omega
            have q5 : (i : Int) = tk - 1 := by rw [HTK.out]; omega
            have FM : Hid ((i : Int) + 1 ≤ tk) := by show _ ≤ _; omega
            clear nx rg f1 f2
            subst hsm
            go_upto_region 20 with (first | (go_at_call 8; refine Calls.mono (NU.out _ _) ?_; rintro e w' ⟨rfl, rfl⟩) | (go_at_call 38; refine Calls.mono SN.out ?_; rintro e W7 ⟨rfl, wv7, x7, k7⟩; have F7 := hide ((NX.out W7 wv7 x7 k7).mono FM.out); have RG7 := hide (RG.out W7 k7); clear x7 k7))
            clear SN NX RG
            obtain ⟨OB, hOB⟩ : ∃ OB, OB = W7.heap.size := ⟨_, rfl⟩
            obtain ⟨WO, hWO⟩ : ∃ WO, WO = W7.alloc (.cells (ocV ⟨t, key, 171, -1, 0, ⟨#[]⟩⟩) 96) := ⟨_, rfl⟩
            have kO : Kp W7 WO non := by rw [hWO]; exact (Kp.refl W7 non).alloc _
            have O1 : WO.heap[OB]? = some (.cells (ocV ⟨t, key, 171, -1, 0, ⟨#[]⟩⟩) 96) := by rw [hWO, hOB]; exact heap_last _ _
            have FO := hide (F7.out.kp kO)
            have p0 : WO.cell? ⟨OB, 0, none⟩ = some (.int .i64 t) := by rw [cell_row O1]; rfl
            have p1 : WO.cell? ⟨OB, 1, none⟩ = some (.string key) := by rw [cell_row O1]; rfl
            have HOB := hide hOB
            have p2 : WO.cell? ⟨OB, 2, none⟩ = some (.int .i64 171) := by rw [cell_row O1]; rfl
            clear kO O1 hOB
            go_upto_region 22 with (first
              | refine wpList_load_mid rfl 96 (.tmp 101) rfl eg 0 rfl (ocV ⟨t, key, 171, -1, 0, ⟨#[]⟩⟩).toList _ RG7.out Tryz.underlying96 rfl oc_info ?_
              | refine wpList_stR rfl 96 (.tmp 19) (.tmp 102) rfl W7.heap.size rfl (ocV ⟨t, key, 171, -1, 0, ⟨#[]⟩⟩) (ocV oc0) rfl _ (heap_last W7 _) oc_info rfl (oc_one _) ?_)
            rw [World.setRow_alloc_new, ← hWO, ← HOB.out]
            clear hWO RG7
            go_wp2_with (go_at_call 8; refine Calls.mono (NU.out _ _) ?_; rintro e w' ⟨rfl, rfl⟩)
            go_ret
            exact ⟨rfl, FO.out⟩
        · have AR := hide A2
          clear A2
          go_wp2_with fail
          refine Calls.mono AR.out ?_
          rintro e W7 ⟨eg, ec, nd, rfl, rg, n1, n2, n3, n4, f7⟩
          have F7 := hide (f7.mono (tk' := tk) (by omega))
          have RG7 := hide rg
          have hsm : sm = true := SM.out.2 nd n1 n4
          subst hsm
          clear f7 rg AR
          obtain ⟨OB, hOB⟩ : ∃ OB, OB = W7.heap.size := ⟨_, rfl⟩
          obtain ⟨WO, hWO⟩ : ∃ WO, WO = W7.alloc (.cells (ocV ⟨t, key, 0, nd, 5, here⟩) 96) := ⟨_, rfl⟩
          have kO : Kp W7 WO non := by rw [hWO]; exact (Kp.refl W7 non).alloc _
          have O1 : WO.heap[OB]? = some (.cells (ocV ⟨t, key, 0, nd, 5, here⟩) 96) := by rw [hWO, hOB]; exact heap_last _ _
          have FO := hide (F7.out.kp kO)
          have p0 : WO.cell? ⟨OB, 0, none⟩ = some (.int .i64 t) := by rw [cell_row O1]; rfl
          have p1 : WO.cell? ⟨OB, 1, none⟩ = some (.string key) := by rw [cell_row O1]; rfl
          have HOB := hide hOB
          have p2 : WO.cell? ⟨OB, 2, none⟩ = some (.int .i64 0) := by rw [cell_row O1]; rfl
          have p3 : WO.cell? ⟨OB, 3, none⟩ = some (.int .i64 nd) := by rw [cell_row O1]; rfl
          have p4 : WO.cell? ⟨OB, 4, none⟩ = some (.int .i64 5) := by rw [cell_row O1]; rfl
          have p5 : WO.cell? ⟨OB, 5, none⟩ = some (.string ⟨#[104, 101, 114, 101]⟩) := by rw [cell_row O1]; rfl
          have MU2 : Hid (Calls Tryz.prog 39 #[.pointer (some ⟨B, 0, none⟩), .int .i64 nd] WO fun e w' => e = .returned (.bool false) ∧ WO = w') := by
            have := mute_any (w := WO) (B := B) M nd FO.out.mutes n2 n3
            rw [n4] at this
            exact this
          clear kO O1 hOB n1 n2 n3 n4
          go_upto_region 22 with (first
            | refine wpList_load_mid rfl 96 (.tmp 101) rfl eg 0 rfl (ocV ⟨t, key, 0, nd, 5, here⟩).toList _ RG7.out Tryz.underlying96 rfl oc_info ?_
            | refine wpList_stR rfl 96 (.tmp 19) (.tmp 102) rfl W7.heap.size rfl (ocV ⟨t, key, 0, nd, 5, here⟩) (ocV oc0) rfl _ (heap_last W7 _) oc_info rfl (oc_one _) ?_)
          rw [World.setRow_alloc_new, ← hWO, ← HOB.out]
          clear hWO RG7
          go_wp2_with (first | (go_at_call 8; refine Calls.mono (NU.out _ _) ?_; rintro e w' ⟨rfl, rfl⟩) | (go_at_call 39; refine Calls.mono MU2.out ?_; rintro e w' ⟨rfl, rfl⟩))
          go_ret
          exact ⟨rfl, FO.out⟩
end Go.Proofs.YtndfhpfhgdamgaaGreatDoor.Cn
namespace Go.Proofs.YtndfhpfhgdamgaaGreatDoor
open Go.RowKit
theorem exec_muli {ρ : Operand → Value} {op : Oper} {w : World} {a b : Int} {t2 : TypeId} (x y : Operand) (ho : op.op = .binOp .mul 3 x y t2) (hx : ρ x = .int .i64 a) (hy : ρ y = .int .i64 b) (h0 : -9223372036854775808 ≤ a * b) (h1 : a * b < 9223372036854775808) : (execOp ρ op).run Tryz.prog w = .ok (.value (.int .i64 (a * b))) w := by
  unfold execOp
  simp only [ho, hx, hy]
  go_simp
  exact i64_in h0 h1
theorem wpList_muli {w : World} {ops : Array Oper} {rest : List Oper} {op : Oper} {a : Act} {Q : Exit → Act → World → Prop} (hgd : op.guard = none) {t2 : TypeId} (x y : Operand) (ho : op.op = .binOp .mul 3 x y t2) (A B C : Int) (hx : a.eval x = .int .i64 A) (hy : a.eval y = .int .i64 B) (hC : A * B = C) (h0 : -9223372036854775808 ≤ C) (h1 : C < 9223372036854775808) (h : wpList Tryz.prog ops Q rest (a.put op.dst (.int .i64 C)) w) : wpList Tryz.prog ops Q (op :: rest) a w := by
  subst hC
  exact wpList_plain hgd fun _ hK => wp_exec (exec_muli x y ho hx hy h0 h1) (hK _ _ h)
theorem exec_quoi {ρ : Operand → Value} {op : Oper} {w : World} {a b : Int} {t2 : TypeId} (x y : Operand) (ho : op.op = .binOp .quo 3 x y t2) (hx : ρ x = .int .i64 a) (hy : ρ y = .int .i64 b) (ha : 0 ≤ a) (ha2 : a < 9223372036854775808) (hb : 0 < b) : (execOp ρ op).run Tryz.prog w = .ok (.value (.int .i64 (a / b))) w := by
  unfold execOp
  simp only [ho, hx, hy]
  have hq := Int.tdiv_eq_ediv_of_nonneg (a := a) (b := b) ha
  have hb0 : ¬ b = 0 := by omega
  have hb1 : ¬ b = -1 := by omega
  have q0 : 0 ≤ a / b := Int.ediv_nonneg ha (by omega)
  have q1 : a / b ≤ a := Int.ediv_le_self _ ha
  have e := i64_in (x := a / b) (by omega) (by omega)
  go_simp
  try exact e
  try exact wrap_in (by omega) (by omega)
theorem wpList_quoi {w : World} {ops : Array Oper} {rest : List Oper} {op : Oper} {a : Act} {Q : Exit → Act → World → Prop} (hgd : op.guard = none) {t2 : TypeId} (x y : Operand) (ho : op.op = .binOp .quo 3 x y t2) (A B C : Int) (hx : a.eval x = .int .i64 A) (hy : a.eval y = .int .i64 B) (hC : A / B = C) (ha : 0 ≤ A) (ha2 : A < 9223372036854775808) (hb : 0 < B) (h : wpList Tryz.prog ops Q rest (a.put op.dst (.int .i64 C)) w) : wpList Tryz.prog ops Q (op :: rest) a w := by
  subst hC
  exact wpList_plain hgd fun _ hK => wp_exec (exec_quoi x y ho hx hy ha ha2 hb) (hK _ _ h)
/-- one setting anew -/
def upd (x : Nat → Int) (i : Nat) (y : Int) : Nat → Int := fun j => if j = i then y else x j
theorem upd_at (x : Nat → Int) (i : Nat) (y : Int) : upd x i y i = y := by simp [upd]
theorem upd_ne (x : Nat → Int) {i j : Nat} (y : Int) (h : j ≠ i) : upd x i y j = x j := by simp [upd, h]
theorem vA_set (x : Nat → Int) (i : Nat) (y : Int) (h : i < 21) : (vA x).modify i (fun _ => .int .i64 y) = vA (upd x i y) := by
  have : i = 0 ∨ i = 1 ∨ i = 2 ∨ i = 3 ∨ i = 4 ∨ i = 5 ∨ i = 6 ∨ i = 7 ∨ i = 8 ∨ i = 9 ∨ i = 10 ∨ i = 11 ∨ i = 12 ∨ i = 13 ∨ i = 14 ∨ i = 15 ∨ i = 16 ∨ i = 17 ∨ i = 18 ∨ i = 19 ∨ i = 20 := by omega
  clear h
  rcases this with rfl | rfl | rfl | rfl | rfl | rfl | rfl | rfl | rfl | rfl | rfl | rfl | rfl | rfl | rfl | rfl | rfl | rfl | rfl | rfl | rfl <;> rfl
theorem vA_set2 (x : Nat → Int) (i : Nat) (y : Int) (h : i < 21) : (vA x).setIfInBounds i (.int .i64 y) = vA (upd x i y) := by
  have : i = 0 ∨ i = 1 ∨ i = 2 ∨ i = 3 ∨ i = 4 ∨ i = 5 ∨ i = 6 ∨ i = 7 ∨ i = 8 ∨ i = 9 ∨ i = 10 ∨ i = 11 ∨ i = 12 ∨ i = 13 ∨ i = 14 ∨ i = 15 ∨ i = 16 ∨ i = 17 ∨ i = 18 ∨ i = 19 ∨ i = 20 := by omega
  clear h
  rcases this with rfl | rfl | rfl | rfl | rfl | rfl | rfl | rfl | rfl | rfl | rfl | rfl | rfl | rfl | rfl | rfl | rfl | rfl | rfl | rfl | rfl <;> rfl
theorem built_cl (st : ByteArray) (x : Nat → Int) (ba : Option Addr) (n c : Nat) : Tryz.prog.built 24 [(0, .string st), (1, .int .i64 (x 0)), (2, .int .i64 (x 1)), (3, .int .i64 (x 2)), (4, .int .i64 (x 3)), (5, .int .i64 (x 4)), (6, .int .i64 (x 5)), (7, .int .i64 (x 6)), (8, .int .i64 (x 7)), (9, .int .i64 (x 8)), (10, .int .i64 (x 9)), (11, .int .i64 (x 10)), (12, .int .i64 (x 11)), (13, .int .i64 (x 12)), (14, .int .i64 (x 13)), (15, .int .i64 (x 14)), (16, .int .i64 (x 15)), (17, .int .i64 (x 16)), (18, .int .i64 (x 17)), (19, .int .i64 (x 18)), (20, .int .i64 (x 19)), (21, .int .i64 (x 20)), (22, .slice ba n c)] = some (clA st x (.slice ba n c)) := by kernel_rfl
theorem wpList_buildCl {w : World} {ops : Array Oper} {rest : List Oper} {o : Oper} {a : Act} {Q : Exit → Act → World → Prop} (hgd : o.guard = none) (y0 y1 y2 y3 y4 y5 y6 y7 y8 y9 y10 y11 y12 y13 y14 y15 y16 y17 y18 y19 y20 y21 y22 : Operand) (ho : o.op = .build 24 #[(0, y0), (1, y1), (2, y2), (3, y3), (4, y4), (5, y5), (6, y6), (7, y7), (8, y8), (9, y9), (10, y10), (11, y11), (12, y12), (13, y13), (14, y14), (15, y15), (16, y16), (17, y17), (18, y18), (19, y19), (20, y20), (21, y21), (22, y22)]) (st : ByteArray) (x : Nat → Int) (ba : Option Addr) (n c : Nat) (h0 : a.eval y0 = .string st) (h1 : a.eval y1 = .int .i64 (x 0)) (h2 : a.eval y2 = .int .i64 (x 1)) (h3 : a.eval y3 = .int .i64 (x 2)) (h4 : a.eval y4 = .int .i64 (x 3)) (h5 : a.eval y5 = .int .i64 (x 4)) (h6 : a.eval y6 = .int .i64 (x 5)) (h7 : a.eval y7 = .int .i64 (x 6)) (h8 : a.eval y8 = .int .i64 (x 7)) (h9 : a.eval y9 = .int .i64 (x 8)) (h10 : a.eval y10 = .int .i64 (x 9)) (h11 : a.eval y11 = .int .i64 (x 10)) (h12 : a.eval y12 = .int .i64 (x 11)) (h13 : a.eval y13 = .int .i64 (x 12)) (h14 : a.eval y14 = .int .i64 (x 13)) (h15 : a.eval y15 = .int .i64 (x 14)) (h16 : a.eval y16 = .int .i64 (x 15)) (h17 : a.eval y17 = .int .i64 (x 16)) (h18 : a.eval y18 = .int .i64 (x 17)) (h19 : a.eval y19 = .int .i64 (x 18)) (h20 : a.eval y20 = .int .i64 (x 19)) (h21 : a.eval y21 = .int .i64 (x 20)) (h22 : a.eval y22 = .slice ba n c)
    (h : wpList Tryz.prog ops Q rest (a.put o.dst (.agg (clA st x (.slice ba n c)))) w) : wpList Tryz.prog ops Q (o :: rest) a w := by
  refine wpList_plain hgd fun K hK => ?_
  unfold Oper.wp execOp
  simp only [ho, List.map_toArray, List.map_cons, List.map_nil, h0, h1, h2, h3, h4, h5, h6, h7, h8, h9, h10, h11, h12, h13, h14, h15, h16, h17, h18, h19, h20, h21, h22, Sem.run_bind, Sem.run_pure, Result.andThen_ok, run_build w 24 _ (clA st x (.slice ba n c)) (built_cl st x ba n c)]
  exact hK _ _ h
end Go.Proofs.YtndfhpfhgdamgaaGreatDoor
namespace Go.Proofs.YtndfhpfhgdamgaaGreatDoor.Cn
open Go.RowKit
theorem wpList_loadClG {w : World} {ops : Array Oper} {rest : List Oper} {o : Oper} {a : Act} {Q : Exit → Act → World → Prop} (p : Operand) (ho : o.op = .load 24 p) (hw : Region.wanted o (yielded ops a.tmps) = true) (b : Nat) (st : ByteArray) (x : Nat → Int) (nv : Value) (hx : a.eval p = .pointer (some ⟨b, 0, none⟩)) (hO : ClAt w b st x nv)
    (h : wpList Tryz.prog ops Q rest (a.put o.dst (.agg (clA st x nv))) w) : wpList Tryz.prog ops Q (o :: rest) a w := by
  refine wpList_step fun K hK => ?_
  rw [if_pos hw]
  exact wp_exec (exec_loadCl p ho hx hO) (hK _ _ h)
set_option maxHeartbeats 8000000 in
set_option maxRecDepth 100000 in
set_option linter.unusedSimpArgs false in
set_option linter.unusedVariables false in
theorem refused_any (N : Nat) (w : World) (st : ByteArray) (x : Nat → Int) (ao : Option Addr) (b o cap : Nat) (pv : Nat → Value) (ns : List ND) (h : NsAt N w ao b o pv ns) (hN : N ≤ w.heap.size) (hs : st.size ≤ 9223372036854775807) (he : errP st x ns ≠ 0) :
    Calls Tryz.prog 10 #[.agg (clA st x (.slice ao ns.length cap))] w fun e w' => e = .returned (.bool true) ∧ Below w.heap.size w w' := by
  obtain ⟨W0, hW0, hX⟩ := boxed st x cap h hN
  have HX := hide (hX.stand hN)
  have B0 := hide hX.bel
  clear hX h
  have NW := hide (New_rno N W0 st x ao b o cap pv ns HX.out.nd HX.out.le hs he)
  have CK : Hid (∀ W1, Below W0.heap.size W0 W1 → Calls Tryz.prog 9 #[.agg (clA st x (.slice ao ns.length cap))] W1 fun e w' => e = .returned (.int .i64 (errP st x ns)) ∧ Below W1.heap.size W1 w') := fun W1 hb => YtndfhpfhgdamgaaGreatDoor.check_any N W1 st x ao b o cap pv ns (HX.out.nd.below (hb.mono HX.out.le)) (Nat.le_trans HX.out.le hb.size) hs
  have NU := hide fun w n => num_r w n
  generalize errP st x ns = er at *
  have q1 : (er == 0) = false := by simp [he]
  have q2 : (er != 0) = true := by simp [he]
  go_enter Tryz.func10, Tryz.ntmps10
  go_upto_region 1 with fail
  rw [← hW0]
  clear hW0
  go_wp2_with (refine wpList_loadCl rfl (.tmp 1) rfl w.heap.size st x _ rfl HX.out.cl ?_)
  refine Calls.mono NW.out ?_
  rintro e W1 ⟨rfl, hb⟩
  have C1 := hide (HX.out.cl.below hb)
  have CK1 := hide (CK.out W1 hb)
  have B1 := hide (B0.out.trans (hb.mono B0.out.size))
  clear hb NW HX CK
  go_wp2_with (first | (go_at_call 8; refine Calls.mono (NU.out _ _) ?_; rintro e w' ⟨rfl, rfl⟩) | (refine wpList_loadClG (.tmp 1) rfl (by kernel_rfl) w.heap.size st x _ rfl C1.out ?_) | (go_at_call 9; refine Calls.mono CK1.out ?_; rintro e W2 ⟨rfl, hb2⟩; have B2 := hide (B1.out.trans (hb2.mono B1.out.size)); clear hb2))
  go_ret
  exact ⟨rfl, B2.out⟩
set_option maxHeartbeats 16000000 in
set_option maxRecDepth 100000 in
set_option linter.unusedSimpArgs false in
set_option linter.unusedVariables false in
theorem cluster_any (N : Nat) (w : World) (st : ByteArray) (x : Nat → Int) (ao : Option Addr) (b o cap : Nat) (pv : Nat → Value) (ns : List ND) (h : NsAt N w ao b o pv ns) (hN : N ≤ w.heap.size) (hps : ∀ (q : Nat) (hq : q < ns.length), ns[q].ps.length ≤ 1000000) (hns : ns.length ≤ 1000000) :
    Calls Tryz.prog 12 #[.agg (clA st x (.slice ao ns.length cap))] w fun e w' => ∃ vl zs, e = .returned (.agg (clA st x vl)) ∧ zs.length = ns.length ∧ Tw (w.heap.size + 2) w' ns vl zs ∧ Below w.heap.size w w' := by
  obtain ⟨W0, hW0⟩ : ∃ W0, W0 = (w.alloc (.cells (clA st x (.slice ao ns.length cap)) 24)).alloc (.cells (clA ⟨#[]⟩ zx (.slice none 0 0)) 24) := ⟨_, rfl⟩
  have B0 : Hid (Below w.heap.size w W0) := by rw [hW0]; exact ((Below.refl _ _).alloc (Nat.le_refl _) _).alloc (by simp) _
  have C0 : Hid (ClAt W0 w.heap.size st x (.slice ao ns.length cap)) := by rw [hW0]; exact (new_cl _ _ _ _).below ((Below.refl _ _).alloc (Nat.le_refl _) _)
  have R0 : Hid (ClAt W0 (w.heap.size + 1) ⟨#[]⟩ zx (.slice none 0 0)) := by
    rw [hW0]
    have := new_cl (w.alloc (.cells (clA st x (.slice ao ns.length cap)) 24)) ⟨#[]⟩ zx (.slice none 0 0)
    simp only [World.size_alloc] at this
    exact this
  have s0 : Hid (W0.heap.size = w.heap.size + 2) := by rw [hW0]; show _ = _; simp
  have HN := hide h
  have hlen := h.len
  clear h
  obtain ⟨i0, hi0, hz0, hz1, hz2⟩ := YtndfhpfhgdamgaaGreatDoor.info_parts infoNd
  have HI : Hid (Tryz.prog.info? 87 = some i0 ∧ i0.zero = some (.agg #[.int .i64 0, .slice none 0 0]) ∧ i0.size = 2 ∧ i0.bytes = 32) := ⟨hi0, hz0, hz1, hz2⟩
  clear hi0 hz0 hz1 hz2
  go_enter Tryz.func12, Tryz.ntmps12
  go_upto_region 1 with fail
  rw [show (w.alloc (.cells (clA st x (.slice ao ns.length cap)) 24)).alloc (.cells #[.string ⟨#[]⟩, .int .i64 0, .int .i64 0, .int .i64 0, .int .i64 0, .int .i64 0, .int .i64 0, .int .i64 0, .int .i64 0, .int .i64 0, .int .i64 0, .int .i64 0, .int .i64 0, .int .i64 0, .int .i64 0, .int .i64 0, .int .i64 0, .int .i64 0, .int .i64 0, .int .i64 0, .int .i64 0, .int .i64 0, .slice none 0 0] 24) = W0 from hW0.symm]
  clear hW0
  go_wp2_with fail
  go_loopw [3, 4, 5, 6] (fun vl vi _ _ wr => ∃ (zs : List (Int × Value)), zs.length ≤ ns.length ∧ vi = .int .i64 (zs.length : Int) ∧ Tw W0.heap.size wr ns vl zs ∧ Below W0.heap.size W0 wr) (fun _ vi _ _ _ => ns.length - (intOf vi).toNat)
  case atStart => exact ⟨[], Nat.zero_le _, rfl, ⟨World.ownsRow_nil _ _ _ _, fun q hq => absurd hq (Nat.not_lt_zero _), fun q hq => absurd hq (Nat.not_lt_zero _)⟩, Below.refl _ _⟩
  case round =>
    obtain ⟨zs, hq, rfl, hT, hB⟩ := hrel
    have HT := hide hT
    have HB := hide hB
    clear hT hB
    obtain ⟨ba, cp, hv⟩ := own_sl HT.out.row
    subst hv
    by_cases hql : zs.length < ns.length
    case pos =>
      have hao := HN.out.at0 (by omega)
      subst hao
      have hqi : (zs.length : Int) < (ns.length : Int) := by omega
      obtain ⟨pa, pb, po, pc, hpv, hp⟩ := HN.out.ps zs.length hql
      have P0 := hide hp
      have hpl := hps zs.length hql
      have CC : Hid (∀ Y, Below W0.heap.size W0 Y → Y.cell? ⟨w.heap.size, 22, none⟩ = some (.slice (some ⟨b, o, none⟩) ns.length cap) ∧ Y.cell? ⟨b, o + zs.length * 2, none⟩ = some (.int .i64 ns[zs.length].z) ∧ Y.cell? ⟨b, o + zs.length * 2 + 1, none⟩ = some (.slice pa ns[zs.length].ps.length pc)) := fun Y hY => by
        have hN0 := HN.out.below ((B0.out.trans (hY.mono B0.out.size)).mono hN)
        refine ⟨(C0.out.below hY).nv, hN0.cz _ hql, ?_⟩
        rw [← hpv]
        exact hN0.cp _ hql
      have PP : Hid (∀ Y, Below W0.heap.size W0 Y → PsAt N Y pa pb po ns[zs.length].ps) := fun Y hY => P0.out.below ((B0.out.trans (hY.mono B0.out.size)).mono hN)
      clear hpv hp P0
      have TS := hide (fun X1 X3 vl' v1 => HT.out.step (X1 := X1) (X3 := X3) (vl' := vl') (v1 := v1) hql)
      have nvw := (CC.out _ HB.out).1
      have hnn : ns.length ≤ 4398046510976 := hlen
      generalize hzz : ns[zs.length].z = z at *
      generalize hpp : ns[zs.length].ps = ps at *
      clear hzz hpp
      go_wp2_with fail
      clear nvw
      generalize wr = wo at *
      go_loopw [5, 6] (fun v5 vk wr => ∃ (j : Nat) (a5 : Option Addr) (c5 : Nat) (QQ : List Int), j ≤ ps.length ∧ vk = .int .i64 (j : Int) ∧ QQ = ps.take j ∧ v5 = .slice a5 QQ.length c5 ∧ wr.ownsRow W0.heap.size 3 1 (.slice a5 QQ.length c5) QQ.length (ints QQ) ∧ (∀ k, (Value.slice a5 QQ.length c5).ownBlock = some k → wo.heap.size ≤ k) ∧ Kp wo wr non) (fun _ vk _ => ps.length - (intOf vk).toNat)
      case atStart => exact ⟨0, none, 0, [], Nat.zero_le _, rfl, rfl, rfl, World.ownsRow_nil _ _ _ _, fun k e => by simp [Value.ownBlock] at e, Kp.refl _ _⟩
      case round =>
        obtain ⟨j, a5, c5, QQ, hj, rfl, hQ, rfl, ho, hge, hk⟩ := hrel
        have HQ := hide hQ
        have HO := hide ho
        have HGE := hide hge
        have HK := hide hk
        have bq : Below W0.heap.size W0 wr := HB.out.trans (hk.below.mono HB.out.size)
        obtain ⟨y1, y2, y3⟩ := CC.out wr bq
        have PQ := PP.out wr bq
        have BQ := hide bq
        clear hQ ho hge hk bq
        by_cases hjl : j < ps.length
        case pos =>
          have hji : (j : Int) < (ps.length : Int) := by omega
          obtain rfl := PQ.at0 (by omega)
          have cj := PQ.c j hjl
          have hQl : QQ.length ≤ 1000000000000 := by
            rw [HQ.out, List.length_take]
            omega
          have HQ1 : Hid (QQ ++ [ps[j]] = ps.take (j + 1)) := by show _ = _; rw [HQ.out, List.take_succ_eq_append_getElem hjl]
          generalize ps[j] = pj at *
          obtain ⟨W4, hW4⟩ : ∃ W4, W4 = wr.alloc (.cells #[.int .i64 pj] 3) := ⟨_, rfl⟩
          have k4 : Kp wr W4 non := by rw [hW4]; exact (Kp.refl wr non).alloc _
          have GG : Hid (W4.heap[wr.heap.size]? = some (.cells #[.int .i64 pj] 3)) := by rw [hW4]; exact heap_last _ _
          have O4 := hide (own_kp HO.out k4 (fun _ _ f => f))
          have K4 : Hid (Kp wo W4 non) := HK.out.trans k4 (fun _ f => f.elim)
          have hz4 : Hid (W0.heap.size ≤ W4.heap.size ∧ wo.heap.size ≤ W4.heap.size) := ⟨Nat.le_trans BQ.out.size k4.size, K4.out.size⟩
          clear k4 PQ
          go_wp2_with (at_builtin; rw [← hW4]; refine wpList_apI rfl (.tmp 25) (.tmp 35) rfl W0.heap.size _ QQ.length QQ rfl O4.out wr.heap.size pj rfl GG.out hQl hz4.out.1 ?_; intro v' w' o2 g2 n2; have O5 := hide o2; have KG := hide (Kp.of_grown g2); have N5 := hide n2; clear o2 g2 n2)
          obtain ⟨a6, c6, rfl⟩ := own_sl O5.out
          have K5 : Hid (Kp wo w' non) := K4.out.trans KG.out (fun k e => Or.inr (HGE.out k e.symm))
          have GE5 : Hid (∀ k, (Value.slice a6 (QQ.length + 1) c6).ownBlock = some k → wo.heap.size ≤ k) := fun k e => by
            rcases N5.out with r | r
            · exact HGE.out k (r.symm.trans e)
            · rw [e] at r
              simp at r
              have := hz4.out.2
              omega
          go_roundw
          case rel => exact ⟨j + 1, a6, c6, QQ ++ [pj], by omega, by go_num, HQ1.out, by rw [List.length_append]; rfl, by rw [List.length_append]; exact O5.out, by rw [List.length_append]; exact GE5.out, K5.out⟩
          case measure => simp [intOf]; omega
        case neg =>
          obtain rfl : j = ps.length := by omega
          have hQe := HQ.out
          rw [List.take_length] at hQe
          subst hQe
          have G1 : Below wo.heap.size wo wr := HK.out.below
          obtain ⟨W5, hW5⟩ : ∃ W5, W5 = wr.alloc (.cells #[.int .i64 z, .slice a5 QQ.length c5] 87) := ⟨_, rfl⟩
          have T1 : Hid (Tw W0.heap.size W5 ns (.slice ba zs.length cp) zs) := by rw [hW5]; exact (HT.out.keep G1).keep ((Below.refl _ _).alloc (Nat.le_refl _) _)
          have NC := hide (nd_cells wr z (.slice a5 QQ.length c5))
          rw [← hW5] at NC
          have hb5 : Hid (W0.heap.size ≤ W5.heap.size) := by rw [hW5]; exact Nat.le_trans BQ.out.size (by simp)
          have BB5 : Hid (Below W0.heap.size W0 W5) := by rw [hW5]; exact BQ.out.alloc BQ.out.size _
          have GN : Hid (wo.grownBy wr none) := ⟨G1.os, G1.tape, G1.output, G1.size, fun i hi _ => G1.block i hi⟩
          have HW5 : Hid (W5 = wr.alloc (.cells #[.int .i64 z, .slice a5 QQ.length c5] 87)) := hW5
          have hzl2 : zs.length ≤ 1000000 := by omega
          clear PQ G1
          go_wp2_with (first
            | refine wpList_blR rfl 87 #[(0, .tmp 43), (1, .tmp 44)] rfl #[.int .i64 z, .slice a5 QQ.length c5] (built_nd _ _ _ _) ?_
            | refine wpList_plain rfl fun _ hK => wp_bsNd (.tmp 45) rfl rfl (hK _ _ ?_)
            | (at_builtin; rw [← hW5]; refine wpList_append_own_at _ rfl (.tmp 37) (.tmp 46) 22 rfl W0.heap.size 87 i0 _ 2 32 Tryz.underlying22 HI.out.1 HI.out.2.1 HI.out.2.2.1 HI.out.2.2.2 rfl (by decide) (.slice ba zs.length cp) zs.length (ndc zs) rfl T1.out.row ⟨wr.heap.size, 0, none⟩ 1 1 (ndc [(z, .slice a5 QQ.length c5)]) rfl rfl NC.out (nd_one rfl) (by unfold maxLen; omega) (by omega) hb5.out ?_; intro vl' X3 o3 g3 _ _; have O3 := hide o3; have G3 := hide g3; clear o3 g3))
          have g3' := G3.out
          rw [HW5.out] at g3'
          have T3 := hide (TS.out wr X3 vl' _ HO.out GN.out O3.out g3')
          have S3 : Hid (Below W0.heap.size W0 X3) := BB5.out.grown G3.out hb5.out (fun j hj => (YtndfhpfhgdamgaaGreatDoor.own_lt T1.out.row hj).1)
          clear g3' hW5
          obtain ⟨ba', cp', hvl'⟩ := own_sl O3.out
          subst hvl'
          go_roundw
          case rel => exact ⟨zs ++ [(z, .slice a5 QQ.length c5)], by simp; omega, by simp, T3.out, S3.out⟩
          case measure => simp [intOf]; omega
    case neg =>
      have hqe : zs.length = ns.length := by omega
      rw [hqe] at HT ⊢
      have hqi : ¬ (ns.length : Int) < (ns.length : Int) := by omega
      have CW := C0.out.below HB.out
      have nvw := CW.nv
      have fvw : wr.frozen? ⟨w.heap.size, 22, none⟩ = false := fz_row CW 22
      obtain ⟨X6, hX6⟩ : ∃ X6, X6 = wr.setCell ⟨w.heap.size, 22, none⟩ (.slice ba ns.length cp) := ⟨_, rfl⟩
      have C6 : Hid (ClAt X6 w.heap.size st x (.slice ba ns.length cp)) := by rw [hX6]; exact CW.set _
      have B6 : Hid (Below w.heap.size w X6) := by rw [hX6]; exact set_below (B0.out.trans (HB.out.mono B0.out.size)) (Nat.le_refl _)
      have k6 : Kp wr X6 (fun k => k = w.heap.size) := by rw [hX6]; exact (Kp.refl wr (fun k => k = w.heap.size)).set (Or.inl rfl) _ _
      have R5 : ClAt wr (w.heap.size + 1) ⟨#[]⟩ zx (.slice none 0 0) := (HB.out.block _ (by have := s0.out; omega)).trans R0.out
      have R6 : Hid (ClAt X6 (w.heap.size + 1) ⟨#[]⟩ zx (.slice none 0 0)) := (k6.block _ (blk_lt R5) (by omega)).trans R5
      have T6 : Hid (Tw W0.heap.size X6 ns (.slice ba ns.length cp) zs) := ⟨own_keep HT.out.row fun g hg => k6.block g (YtndfhpfhgdamgaaGreatDoor.own_lt HT.out.row hg).2 (by have := (YtndfhpfhgdamgaaGreatDoor.own_lt HT.out.row hg).1; have := s0.out; omega), HT.out.z, fun q hq hq' => own_keep (HT.out.p q hq hq') fun g hg => k6.block g (YtndfhpfhgdamgaaGreatDoor.own_lt (HT.out.p q hq hq') hg).2 (by have := (YtndfhpfhgdamgaaGreatDoor.own_lt (HT.out.p q hq hq') hg).1; have := s0.out; omega)⟩
      clear CW k6 R5 HN hqi
      go_upto_region 12 with fail
      rw [← hX6]
      clear hX6 nvw fvw
      go_wp2_with (first | (refine wpList_loadCl rfl (.tmp 1) rfl w.heap.size st x _ rfl C6.out ?_) | (refine wpList_store_row rfl 24 (.tmp 2) (.tmp 50) rfl (w.heap.size + 1) (clA st x (.slice ba ns.length cp)) rfl rfl 24 _ R6.out infoCl rfl (clA_one st x rfl) ?_))
      have E6 : ClAt (X6.setRow (w.heap.size + 1) (clA st x (.slice ba ns.length cp))) (w.heap.size + 1) st x (.slice ba ns.length cp) := setRow_heap X6 (w.heap.size + 1) _ _ 24 _ R6.out
      have oth : ∀ i, i ≠ w.heap.size + 1 → (X6.setRow (w.heap.size + 1) (clA st x (.slice ba ns.length cp))).heap[i]? = X6.heap[i]? := fun i hi => setRow_other X6 (w.heap.size + 1) i _ (fun e => hi (by first | exact e | exact e.symm))
      have T7 : Tw W0.heap.size (X6.setRow (w.heap.size + 1) (clA st x (.slice ba ns.length cp))) ns (.slice ba ns.length cp) zs := ⟨own_keep T6.out.row fun g hg => oth g (by have := (YtndfhpfhgdamgaaGreatDoor.own_lt T6.out.row hg).1; have := s0.out; omega), T6.out.z, fun q hq hq' => own_keep (T6.out.p q hq hq') fun g hg => oth g (by have := (YtndfhpfhgdamgaaGreatDoor.own_lt (T6.out.p q hq hq') hg).1; have := s0.out; omega)⟩
      rw [s0.out] at T7
      have B7 : Below w.heap.size w (X6.setRow (w.heap.size + 1) (clA st x (.slice ba ns.length cp))) := below_setRow B6.out (by omega) _
      refine bodyPost_ret (v := .agg (clA st x (.slice ba ns.length cp))) (res_cl Tryz.results12 _ st x _ _ (w.heap.size + 1) rfl E6) rfl (by first | exact ⟨_, rfl, zs, hqe, T7, B7⟩ | exact ⟨_, zs, rfl, hqe, T7, B7⟩)
set_option maxHeartbeats 16000000 in
set_option maxRecDepth 100000 in
set_option linter.unusedSimpArgs false in
set_option linter.unusedVariables false in
theorem beyond_any (w : World) (n : Int) : Calls Tryz.prog 7 #[.int .i64 n] w fun e w' => e = .returned (.bool (decide ((2147483647 : Int) < n))) ∧ w = w' := by
  go_enter Tryz.func7, Tryz.ntmps7
  go_wp2_with fail
  go_ret
  exact ⟨rfl, rfl⟩
theorem nm_size {t : ByteArray} (h : nmP t = true) : t.size ≤ 40 := by
  unfold nmP at h
  rw [Bool.and_eq_true] at h
  exact of_decide_eq_true h.1
end Go.Proofs.YtndfhpfhgdamgaaGreatDoor.Cn
