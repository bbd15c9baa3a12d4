import Derived.Test.YtpleakkhbfhdkaaGCfCalls
namespace Go.Proofs.Ytpleakkhbfhdkaa.Cn
open Go.RowKit
set_option maxHeartbeats 8000000 in
set_option maxRecDepth 100000 in
set_option linter.unusedSimpArgs false in
set_option linter.unusedVariables false in
theorem ended_2 {N : Nat} {w : World} {B C : Nat} {S : Nat → Prop} {nv lv fv bv av : Value} {p : Pl} (h : PlX N w B C S nv lv fv bv av p) {n : Nat} (hf : p.c.fine) (hj0 : p.job ≠ 0) (hnn : p.nd.length = n) (hna : p.at'.length = n) (hnb : p.ba.length = n) (n1 : 1 ≤ n) (n16 : n ≤ 16) (e1 : p.c.last.job = p.job) (e2 : p.c.last.kind = p.kind) (e3 : p.c.last.ver = p.ver) (e4 : p.c.last.hs.length = n) (ho : p.c.last.out = 2) (hbk : p.bk = true) (hms : p.c.last.ms = []) (hall : ∀ i, i < n → p.ba.getD i false = true ∧ p.c.last.hs.getD i 0 = (p.nd.getD i nd0).cur ∧ ((p.nd.getD i nd0).sw ≠ p.job ∨ (p.nd.getD i nd0).cur = (p.nd.getD i nd0).was) ∧ (p.nd.getD i nd0).ep = p.job ∧ (p.nd.getD i nd0).sq = 2) :
    Calls Try.prog 55 #[.pointer (some ⟨B, 0, none⟩)] w fun e w' => e = .returned (.bool true) ∧ ∃ at2, at2.length = n ∧ PlX N w' B C S nv lv fv bv av { p with at' := at2 } ∧ Below N w w' ∧ ∀ i, i < n → at2.getD i (-1) = (p.nd.getD i nd0).cur := by
  have RP := hide (Report_yes h.ct hf.n1 (by rw [e1]; exact hj0) (by have := hf.la; omega) (by have := hf.la; omega))
  obtain ⟨ga, ac, rfl⟩ := h.atRow hna n1
  have H := hide h
  obtain ⟨na, nc, hnv⟩ := own_sl h.nd
  have x0 := h.cells.1
  have HNV : Hid (nv = .slice na n nc) := by rw [hnv, hnn]; exact rfl
  obtain ⟨NU0, NU⟩ : ∃ q : True, Hid (∀ w : World, Calls Try.prog 11 #[.int .i64 0] w fun x w' => x = .returned (.int .i64 0) ∧ w' = w) := ⟨trivial, fun w => (num_any 0 w).mono fun _ _ ⟨a, b⟩ => ⟨a, b.symm⟩⟩
  have LA := hide hf.la
  have E1 := hide e1
  have E2 := hide e2
  have E3 := hide e3
  have E4 := hide e4
  have HNN := hide hnn
  have HNA := hide hna
  have HNB := hide hnb
  have HO := hide ho
  have HBK := hide hbk
  have HMS := hide hms
  have HALL := hide hall
  have ga0 : Hid (ga < w.heap.size ∧ ga ≠ B) := by obtain ⟨_, _, a, b⟩ := h.atCell hna 0 (by omega); exact ⟨b, a⟩
  clear h hf hj0 hnn hna hnb e1 e2 e3 e4 ho hbk hms hall hnv NU0
  go_enter Try.func55, Try.ntmps55
  go_wp2_with fail
  refine Calls.mono RP.out ?_
  rintro e Wr ⟨nh, nm, rfl, oh, om, bb⟩
  clear RP x0
  obtain ⟨hva, hvc, hvh⟩ := own_sl oh
  obtain ⟨mva, mvc, hvm⟩ := own_sl om
  obtain ⟨R, hR⟩ : ∃ R, R = Wr.heap.size := ⟨_, rfl⟩
  obtain ⟨la, hla⟩ : ∃ la, la = p.c.last := ⟨_, rfl⟩
  rw [← hla] at oh om hvh hvm E1 E2 E3 E4 HO HMS HALL LA ⊢
  obtain ⟨W1, hW1⟩ : ∃ W1, W1 = (Wr.alloc (.cells #[.int .i64 0, .int .i64 0, .int .i64 0, .int .i64 0, .slice none 0 0, .slice none 0 0] 39)).setRow Wr.heap.size (rpA la nh nm) := ⟨_, rfl⟩
  have b1 : Below Wr.heap.size Wr W1 := by rw [hW1]; exact (((Kp.refl Wr non).alloc _).row (Or.inr (Nat.le_refl _)) _).below
  have R1 : Hid (W1.heap[R]? = some (.cells (rpA la nh nm) 39)) := by rw [hW1, hR]; exact setRow_heap _ _ _ _ _ _ (heap_last Wr _)
  have P1 : Hid (PlX N W1 B C S nv lv fv bv (.slice (some ⟨ga, 0, none⟩) n ac) p) := (H.out.below bb).below b1
  have OH : Hid (W1.ownsRow w.heap.size 3 1 nh la.hs.length (ints la.hs)) := own_below oh b1
  have OM : Hid (W1.ownsRow w.heap.size 3 1 nm la.ms.length (ints la.ms)) := own_below om b1
  have BW : Hid (Below w.heap.size w W1) := bb.trans (b1.mono bb.size)
  have gR : Hid (w.heap.size ≤ R) := by rw [hR]; exact bb.size
  have VH : Hid (nh = .slice hva n hvc) := by rw [hvh, E4.out]; exact rfl
  have ONE := hide (rp_one la ⟨_, _, _, hvh⟩ ⟨_, _, _, hvm⟩)
  have VM := hide hvm
  have hW1' := hide hW1
  have HR := hide hR
  clear oh om bb b1 hW1 hvh hvm hla
  go_upto_region 2 with (refine wpList_stR rfl 39 (.tmp 3) (.tmp 13) rfl Wr.heap.size rfl (rpA la nh nm) #[.int .i64 0, .int .i64 0, .int .i64 0, .int .i64 0, .slice none 0 0, .slice none 0 0] rfl _ (heap_last Wr _) rp_info rfl ONE.out ?_)
  rw [← hW1'.out, ← HR.out]
  clear hW1' hR
  have y0 : W1.cell? ⟨R, 0, none⟩ = some (.int .i64 p.job) := by rw [cell_row R1.out, ← E1.out]; rfl
  have y1 : W1.cell? ⟨R, 1, none⟩ = some (.int .i64 p.kind) := by rw [cell_row R1.out, ← E2.out]; rfl
  have y2 : W1.cell? ⟨R, 2, none⟩ = some (.int .i64 p.ver) := by rw [cell_row R1.out, ← E3.out]; rfl
  have y4 : W1.cell? ⟨R, 4, none⟩ = some (.slice hva n hvc) := by rw [cell_row R1.out, ← VH.out]; rfl
  obtain ⟨_, x1, _, x3, x4, x5, _⟩ := P1.out.cells
  rw [HNV.out] at x1
  go_quiet ((go_at_call 11; exact Calls.quiet_of_same (NU.out _)))
  obtain ⟨W2, hW2⟩ : ∃ X, X = W1.drewN nq := ⟨_, rfl⟩
  have KK : Kp W1 W2 non := by rw [hW2]; exact (Kp.refl _ non).drewN _
  have P2 := hide (P1.out.kp KK (fun _ f => f.elim))
  have R2 : Hid (W2.heap[R]? = some (.cells (rpA la nh nm) 39)) := getL KK R1.out (fun f => f)
  have OH2 := hide (own_kp OH.out KK (fun _ _ f => f))
  have OM2 := hide (own_kp OM.out KK (fun _ _ f => f))
  have BW2 : Hid (Below w.heap.size w W2) := ((Kp.of_below BW.out non).trans KK (fun _ f => f.elim)).below
  rw [← hW2]
  clear hW2 KK y0 y1 y2 y4 x1 x3 x4 x5 P1 R1 OH OM BW
  go_wp2_with fail
  go_loopw [5, 6] (fun vm vi wr => ∃ (i : Nat) (ati : List Int), i ≤ n ∧ vi = .int .i64 (i : Int) ∧ vm = .int .i64 0 ∧ Hid (ati.length = n) ∧ Hid (PlX N wr B C S nv lv fv bv (.slice (some ⟨ga, 0, none⟩) n ac) { p with at' := ati }) ∧ Hid (Kp W2 wr (fun k => k = ga)) ∧ Hid (∀ j, j < i → ati.getD j (-1) = (p.nd.getD j nd0).cur)) (fun _ vi _ => n - (intOf vi).toNat)
  case atStart => exact ⟨0, p.at', Nat.zero_le _, rfl, rfl, HNA.out, P2.out, Kp.refl _ _, fun j f => by omega⟩
  case round =>
    obtain ⟨i, ati, hi, rfl, rfl, HL, HP, HK, HJ⟩ := hrel
    have Rr : Hid (wr.heap[R]? = some (.cells (rpA la nh nm) 39)) := getL HK.out R2.out (by have := gR.out; have := ga0.out; omega)
    have OHr : Hid (wr.ownsRow w.heap.size 3 1 nh la.hs.length (ints la.hs)) := own_kp OH2.out HK.out (fun q e f => by have := own_ge OH2.out e; have := ga0.out; omega)
    have OMr : Hid (wr.ownsRow w.heap.size 3 1 nm la.ms.length (ints la.ms)) := own_kp OM2.out HK.out (fun q e f => by have := own_ge OM2.out e; have := ga0.out; omega)
    have BWr : Hid (Below N w wr) := ((Kp.of_below BW2.out (fun q => q = ga)).trans HK.out (fun q e => Or.inl e)).toN H.out.gN (fun q e => by have := own_ge H.out.at' (show Value.ownBlock _ = some ga from rfl); omega)
    obtain ⟨_, x1, _, x3, x4, x5, _, x7, x8, x9⟩ := HP.out.cells
    rw [HNV.out] at x1
    rw [HBK.out] at x8
    by_cases hin : i < n
    case neg =>
      obtain rfl : i = n := by omega
      have y3 : wr.cell? ⟨R, 3, none⟩ = some (.int .i64 2) := by rw [cell_row Rr.out, ← HO.out]; rfl
      have y5 : wr.cell? ⟨R, 5, none⟩ = some (.slice mva 0 mvc) := by rw [cell_row Rr.out, show (rpA la nh nm)[5]? = some nm from rfl, VM.out, HMS.out]; rfl
      clear x3 x4 x5 x7 x9
      go_wp2_with fail
      go_ret
      exact ⟨rfl, ati, HL.out, HP.out, BWr.out, HJ.out⟩
    case pos =>
      have hii : (i : Int) < (n : Int) := by omega
      have hin' := hide hin
      obtain ⟨AC, AF, _, _⟩ := HP.out.atCell HL.out i hin
      obtain ⟨hall1, HA1⟩ : ∃ q : True, Hid (p.ba.getD i false = true ∧ la.hs.getD i 0 = (p.nd.getD i nd0).cur ∧ ((p.nd.getD i nd0).sw ≠ p.job ∨ (p.nd.getD i nd0).cur = (p.nd.getD i nd0).was) ∧ (p.nd.getD i nd0).ep = p.job ∧ (p.nd.getD i nd0).sq = 2) := ⟨trivial, HALL.out i hin⟩
      obtain ⟨gh, hc9, hv9, _, _, cg⟩ := own_read OHr.out rfl i (by rw [E4.out]; exact hin)
      have e8 : hva = some ⟨gh, 0, none⟩ := by have q := hv9.symm.trans VH.out; simp only [Value.slice.injEq] at q; exact q.1.symm
      subst e8
      obtain ⟨hd, hhd⟩ : ∃ hd, hd = la.hs.getD i 0 := ⟨_, rfl⟩
      have cg' : wr.cell? ⟨gh, i, none⟩ = some (.int .i64 hd) := by rw [hhd, getD_at (by rw [E4.out]; exact hin)]; exact cg
      have gne : Hid (gh ≠ ga ∧ R ≠ ga) := ⟨by have := own_ge OHr.out (show nh.ownBlock = some gh by rw [hv9]; rfl); have := ga0.out; omega, by have := gR.out; have := ga0.out; omega⟩
      rw [← hhd] at HA1
      obtain ⟨nd, hnd⟩ : ∃ nd, nd = p.nd.getD i nd0 := ⟨_, rfl⟩
      rw [← hnd] at HA1
      have hndL : Hid (nd = p.nd[i]'(by rw [HNN.out]; exact hin)) := by rw [hnd]; exact getD_at (by rw [HNN.out]; exact hin)
      obtain ⟨gn, nc9, hv8, gnlt, _, cn, _⟩ := own_nd HP.out.nd i (by show i < p.nd.length; rw [HNN.out]; exact hin)
      have e7 : na = some ⟨gn, 0, none⟩ := by have q := hv8.symm.trans HNV.out; simp only [Value.slice.injEq] at q; exact q.1.symm
      subst e7
      have cn' : wr.cell? ⟨gn, i * 8, none⟩ = some (.int .i64 nd.cur) := by rw [hndL.out]; exact cn
      have gnne : Hid (gn ≠ ga) := fun e => own_apart HP.out.nd HP.out.at' (by decide) gn (by rw [hv8]; rfl) (by rw [e]; rfl)
      have HND := hide hnd
      clear cg cn hv8 hv9 hhd hnd hall1
      obtain ⟨W3, hW3⟩ : ∃ X, X = wr.setCell ⟨ga, i, none⟩ (.int .i64 (-1)) := ⟨_, rfl⟩
      obtain ⟨pp3, kk3⟩ := HP.out.setAtN HL.out i (-1)
      rw [← hW3] at pp3 kk3
      have P3 := hide pp3
      have K3 : Hid (Kp W2 W3 (fun k => k = ga)) := HK.out.trans kk3 (fun _ e => Or.inl e)
      have R3 : Hid (W3.heap[R]? = some (.cells (rpA la nh nm) 39)) := getL kk3 Rr.out gne.out.2
      have cg3 : W3.cell? ⟨gh, i, none⟩ = some (.int .i64 hd) := by rw [hW3]; unfold World.cell?; rw [Below.heap_setCell _ _ _ gh gne.out.1]; exact cg'
      have cn3 : W3.cell? ⟨gn, i * 8, none⟩ = some (.int .i64 nd.cur) := by rw [hW3]; unfold World.cell?; rw [Below.heap_setCell _ _ _ gn gnne.out]; exact cn'
      have L3 : Hid ((ati.set i (-1)).length = n) := by rw [List.length_set]; exact HL.out
      replace hW3 := hide hW3
      clear pp3 kk3 cg' cn' x3 x4 x5 x7 x8
      go_upto_region 9 with fail
      rw [← hW3.out]
      clear hW3 x1 x9 AC AF
      have y3 : W3.cell? ⟨R, 3, none⟩ = some (.int .i64 2) := by rw [cell_row R3.out, ← HO.out]; rfl
      obtain ⟨gb, bc9, hv7, _, _, cb⟩ := own_bl P3.out.ba i (by show i < p.ba.length; rw [HNB.out]; exact hin)
      have cb3 : W3.cell? ⟨gb, i, none⟩ = some (.bool (p.ba.getD i false)) := by rw [getD_at (by rw [HNB.out]; exact hin)]; exact cb
      have x7 : W3.cell? ⟨B, 7, none⟩ = some (.slice (some ⟨gb, 0, none⟩) n bc9) := by
        have q := P3.out.cells.2.2.2.2.2.2.2.1
        rw [hv7] at q
        have e : ({ p with at' := ati.set i (-1) } : Pl).ba.length = n := HNB.out
        rw [e] at q
        exact q
      have y4 : W3.cell? ⟨R, 4, none⟩ = some (.slice (some ⟨gh, 0, none⟩) n hvc) := by rw [cell_row R3.out, ← VH.out]; rfl
      clear cb hv7
      rw [HA1.out.1] at cb3
      have RES := hide (restored_any P3.out i (by show i < p.nd.length; rw [HNN.out]; exact hin) (by show i < (ati.set i (-1)).length; rw [L3.out]; exact hin) (by show p.nd.length ≤ 16; rw [HNN.out]; exact n16) (by show (ati.set i (-1)).length ≤ 16; rw [L3.out]; exact n16) hd nd hndL.out HA1.out.2.1 HA1.out.2.2.1 HA1.out.2.2.2.1 HA1.out.2.2.2.2)
      clear cn3
      go_upto_region 16 with fail
      clear y3
      go_wp2_with fail
      refine Calls.mono RES.out ?_
      rintro e W4 ⟨rfl, p4, k4⟩
      have P4 := hide p4
      have K4 : Hid (Kp W2 W4 (fun k => k = ga)) := K3.out.trans (k4.mono (fun q e => by simpa [Value.ownBlock] using e.symm)) (fun _ e => Or.inl e)
      clear p4 k4 RES
      go_wp2_with fail
      have LL : ((ati.set i (-1)).set i nd.cur).length = n := by rw [List.length_set]; exact L3.out
      refine ⟨⟨i + 1, (ati.set i (-1)).set i nd.cur, by omega, rfl, rfl, LL, P4.out, K4.out, fun j hj => ?_⟩, by simp [intOf]; omega⟩
      rw [getD_setI (by rw [L3.out]; exact hin), getD_setI (by rw [HL.out]; exact hin)]
      by_cases e : j = i
      · rw [if_pos e, e, HND.out]
      · rw [if_neg e, if_neg e]
        exact HJ.out j (by omega)
end Go.Proofs.Ytpleakkhbfhdkaa.Cn
namespace Go.Proofs.Ytpleakkhbfhdkaa.Cn
open Go.RowKit
set_option maxHeartbeats 8000000 in
set_option maxRecDepth 100000 in
set_option linter.unusedSimpArgs false in
set_option linter.unusedVariables false in
theorem ended_3 {N : Nat} {w : World} {B C : Nat} {S : Nat → Prop} {nv lv fv bv av : Value} {p : Pl} (h : PlX N w B C S nv lv fv bv av p) {n : Nat} (hf : p.c.fine) (hj0 : p.job ≠ 0) (hnn : p.nd.length = n) (hna : p.at'.length = n) (hnb : p.ba.length = n) (n1 : 1 ≤ n) (n16 : n ≤ 16) (e1 : p.c.last.job = p.job) (e2 : p.c.last.kind = p.kind) (e3 : p.c.last.ver = p.ver) (e4 : p.c.last.hs.length = n) (ho : p.c.last.out = 3) (hbk : p.bk = true) (al : List (Bool × Int)) (hal : al.length = n) (hms : p.c.last.ms = miss al) (hmn : p.c.last.ms ≠ []) (hall : ∀ i, i < n → (al.getD i al0).1 = p.ba.getD i false ∧ (p.ba.getD i false = true → p.c.last.hs.getD i 0 = (p.nd.getD i nd0).cur ∧ ((p.nd.getD i nd0).sw ≠ p.job ∨ (p.nd.getD i nd0).cur = (p.nd.getD i nd0).was) ∧ (p.nd.getD i nd0).ep = p.job ∧ (p.nd.getD i nd0).sq = 2) ∧ (p.ba.getD i false = false → p.c.last.hs.getD i 0 = -1)) :
    Calls Try.prog 55 #[.pointer (some ⟨B, 0, none⟩)] w fun e w' => e = .returned (.bool true) ∧ ∃ at2, at2.length = n ∧ PlX N w' B C S nv lv fv bv av { p with at' := at2 } ∧ Below N w w' ∧ ∀ i, i < n → at2.getD i (-1) = if p.ba.getD i false = true then (p.nd.getD i nd0).cur else -1 := by
  have RP := hide (Report_yes h.ct hf.n1 (by rw [e1]; exact hj0) (by have := hf.la; omega) (by have := hf.la; omega))
  obtain ⟨ga, ac, rfl⟩ := h.atRow hna n1
  have H := hide h
  obtain ⟨na, nc, hnv⟩ := own_sl h.nd
  have x0 := h.cells.1
  have HNV : Hid (nv = .slice na n nc) := by rw [hnv, hnn]; exact rfl
  obtain ⟨NU0, NU⟩ : ∃ q : True, Hid (∀ w : World, Calls Try.prog 11 #[.int .i64 0] w fun x w' => x = .returned (.int .i64 0) ∧ w' = w) := ⟨trivial, fun w => (num_any 0 w).mono fun _ _ ⟨a, b⟩ => ⟨a, b.symm⟩⟩
  have LA := hide hf.la
  have E1 := hide e1
  have E2 := hide e2
  have E3 := hide e3
  have E4 := hide e4
  have HNN := hide hnn
  have HNA := hide hna
  have HNB := hide hnb
  have HO := hide ho
  have HBK := hide hbk
  have HMS := hide hms
  have HALL := hide hall
  have ga0 : Hid (ga < w.heap.size ∧ ga ≠ B) := by obtain ⟨_, _, a, b⟩ := h.atCell hna 0 (by omega); exact ⟨b, a⟩
  have HAL := hide hal
  have HMN := hide hmn
  clear hal hmn
  clear h hf hj0 hnn hna hnb e1 e2 e3 e4 ho hbk hms hall hnv NU0
  go_enter Try.func55, Try.ntmps55
  go_wp2_with fail
  refine Calls.mono RP.out ?_
  rintro e Wr ⟨nh, nm, rfl, oh, om, bb⟩
  clear RP x0
  obtain ⟨hva, hvc, hvh⟩ := own_sl oh
  obtain ⟨mva, mvc, hvm⟩ := own_sl om
  obtain ⟨R, hR⟩ : ∃ R, R = Wr.heap.size := ⟨_, rfl⟩
  obtain ⟨la, hla⟩ : ∃ la, la = p.c.last := ⟨_, rfl⟩
  rw [← hla] at oh om hvh hvm E1 E2 E3 E4 HO HMS HALL LA ⊢ HMN
  obtain ⟨W1, hW1⟩ : ∃ W1, W1 = (Wr.alloc (.cells #[.int .i64 0, .int .i64 0, .int .i64 0, .int .i64 0, .slice none 0 0, .slice none 0 0] 39)).setRow Wr.heap.size (rpA la nh nm) := ⟨_, rfl⟩
  have b1 : Below Wr.heap.size Wr W1 := by rw [hW1]; exact (((Kp.refl Wr non).alloc _).row (Or.inr (Nat.le_refl _)) _).below
  have R1 : Hid (W1.heap[R]? = some (.cells (rpA la nh nm) 39)) := by rw [hW1, hR]; exact setRow_heap _ _ _ _ _ _ (heap_last Wr _)
  have P1 : Hid (PlX N W1 B C S nv lv fv bv (.slice (some ⟨ga, 0, none⟩) n ac) p) := (H.out.below bb).below b1
  have OH : Hid (W1.ownsRow w.heap.size 3 1 nh la.hs.length (ints la.hs)) := own_below oh b1
  have OM : Hid (W1.ownsRow w.heap.size 3 1 nm la.ms.length (ints la.ms)) := own_below om b1
  have BW : Hid (Below w.heap.size w W1) := bb.trans (b1.mono bb.size)
  have gR : Hid (w.heap.size ≤ R) := by rw [hR]; exact bb.size
  have VH : Hid (nh = .slice hva n hvc) := by rw [hvh, E4.out]; exact rfl
  have ONE := hide (rp_one la ⟨_, _, _, hvh⟩ ⟨_, _, _, hvm⟩)
  have VM := hide hvm
  have hW1' := hide hW1
  have HR := hide hR
  clear oh om bb b1 hW1 hvh hvm hla
  go_upto_region 2 with (refine wpList_stR rfl 39 (.tmp 3) (.tmp 13) rfl Wr.heap.size rfl (rpA la nh nm) #[.int .i64 0, .int .i64 0, .int .i64 0, .int .i64 0, .slice none 0 0, .slice none 0 0] rfl _ (heap_last Wr _) rp_info rfl ONE.out ?_)
  rw [← hW1'.out, ← HR.out]
  clear hW1' hR
  have y0 : W1.cell? ⟨R, 0, none⟩ = some (.int .i64 p.job) := by rw [cell_row R1.out, ← E1.out]; rfl
  have y1 : W1.cell? ⟨R, 1, none⟩ = some (.int .i64 p.kind) := by rw [cell_row R1.out, ← E2.out]; rfl
  have y2 : W1.cell? ⟨R, 2, none⟩ = some (.int .i64 p.ver) := by rw [cell_row R1.out, ← E3.out]; rfl
  have y4 : W1.cell? ⟨R, 4, none⟩ = some (.slice hva n hvc) := by rw [cell_row R1.out, ← VH.out]; rfl
  obtain ⟨_, x1, _, x3, x4, x5, _⟩ := P1.out.cells
  rw [HNV.out] at x1
  go_quiet ((go_at_call 11; exact Calls.quiet_of_same (NU.out _)))
  obtain ⟨W2, hW2⟩ : ∃ X, X = W1.drewN nq := ⟨_, rfl⟩
  have KK : Kp W1 W2 non := by rw [hW2]; exact (Kp.refl _ non).drewN _
  have P2 := hide (P1.out.kp KK (fun _ f => f.elim))
  have R2 : Hid (W2.heap[R]? = some (.cells (rpA la nh nm) 39)) := getL KK R1.out (fun f => f)
  have OH2 := hide (own_kp OH.out KK (fun _ _ f => f))
  have OM2 := hide (own_kp OM.out KK (fun _ _ f => f))
  have BW2 : Hid (Below w.heap.size w W2) := ((Kp.of_below BW.out non).trans KK (fun _ f => f.elim)).below
  rw [← hW2]
  clear hW2 KK y0 y1 y2 y4 x1 x3 x4 x5 P1 R1 OH OM BW
  go_wp2_with fail
  go_loopw [5, 6] (fun vm vi wr => ∃ (i : Nat) (ati : List Int), i ≤ n ∧ vi = .int .i64 (i : Int) ∧ vm = .int .i64 ((missL al i).length : Int) ∧ Hid (ati.length = n) ∧ Hid (PlX N wr B C S nv lv fv bv (.slice (some ⟨ga, 0, none⟩) n ac) { p with at' := ati }) ∧ Hid (Kp W2 wr (fun k => k = ga)) ∧ Hid (∀ j, j < i → ati.getD j (-1) = if p.ba.getD j false = true then (p.nd.getD j nd0).cur else -1)) (fun _ vi _ => n - (intOf vi).toNat)
  case atStart => exact ⟨0, p.at', Nat.zero_le _, rfl, rfl, HNA.out, P2.out, Kp.refl _ _, fun j f => by omega⟩
  case round =>
    obtain ⟨i, ati, hi, rfl, rfl, HL, HP, HK, HJ⟩ := hrel
    have Rr : Hid (wr.heap[R]? = some (.cells (rpA la nh nm) 39)) := getL HK.out R2.out (by have := gR.out; have := ga0.out; omega)
    have OHr : Hid (wr.ownsRow w.heap.size 3 1 nh la.hs.length (ints la.hs)) := own_kp OH2.out HK.out (fun q e f => by have := own_ge OH2.out e; have := ga0.out; omega)
    have OMr : Hid (wr.ownsRow w.heap.size 3 1 nm la.ms.length (ints la.ms)) := own_kp OM2.out HK.out (fun q e f => by have := own_ge OM2.out e; have := ga0.out; omega)
    have BWr : Hid (Below N w wr) := ((Kp.of_below BW2.out (fun q => q = ga)).trans HK.out (fun q e => Or.inl e)).toN H.out.gN (fun q e => by have := own_ge H.out.at' (show Value.ownBlock _ = some ga from rfl); omega)
    obtain ⟨_, x1, _, x3, x4, x5, _, x7, x8, x9⟩ := HP.out.cells
    rw [HNV.out] at x1
    rw [HBK.out] at x8
    by_cases hin : i < n
    case neg =>
      obtain rfl : i = n := by omega
      have y3 : wr.cell? ⟨R, 3, none⟩ = some (.int .i64 3) := by rw [cell_row Rr.out, ← HO.out]; rfl
      have y5 : wr.cell? ⟨R, 5, none⟩ = some (.slice mva la.ms.length mvc) := by rw [cell_row Rr.out, show (rpA la nh nm)[5]? = some nm from rfl, VM.out]
      have q1 : Hid ((missL al i).length = la.ms.length) := by rw [HMS.out, ← HAL.out]; exact rfl
      have q2 : 0 < la.ms.length := by rcases Nat.eq_zero_or_pos la.ms.length with a | a; exact absurd (List.length_eq_zero_iff.1 a) HMN.out; exact a
      obtain ⟨ml, hml⟩ : ∃ ml, ml = la.ms.length := ⟨_, rfl⟩
      obtain ⟨mk, hmk⟩ : ∃ mk, mk = (missL al i).length := ⟨_, rfl⟩
      have q3 : mk = ml := by rw [hmk, hml]; exact q1.out
      rw [← hml] at y5 q2
      subst q3
      have q4 : ((mk : Int) == (mk : Int)) = true := by simp
      have q5 : decide ((mk : Int) > 0) = true := decide_eq_true (by omega)
      have q6 : decide (0 < (mk : Int)) = true := decide_eq_true (by omega)
      rw [← hmk]
      clear hmk hml q1
      clear x3 x4 x5 x7 x9
      go_wp2_with fail
      go_ret
      exact ⟨rfl, ati, HL.out, HP.out, BWr.out, HJ.out⟩
    case pos =>
      have hii : (i : Int) < (n : Int) := by omega
      have hin' := hide hin
      obtain ⟨AC, AF, _, _⟩ := HP.out.atCell HL.out i hin
      obtain ⟨hall1, HA1⟩ : ∃ q : True, Hid ((al.getD i al0).1 = p.ba.getD i false ∧ (p.ba.getD i false = true → la.hs.getD i 0 = (p.nd.getD i nd0).cur ∧ ((p.nd.getD i nd0).sw ≠ p.job ∨ (p.nd.getD i nd0).cur = (p.nd.getD i nd0).was) ∧ (p.nd.getD i nd0).ep = p.job ∧ (p.nd.getD i nd0).sq = 2) ∧ (p.ba.getD i false = false → la.hs.getD i 0 = -1)) := ⟨trivial, HALL.out i hin⟩
      obtain ⟨gh, hc9, hv9, _, _, cg⟩ := own_read OHr.out rfl i (by rw [E4.out]; exact hin)
      have e8 : hva = some ⟨gh, 0, none⟩ := by have q := hv9.symm.trans VH.out; simp only [Value.slice.injEq] at q; exact q.1.symm
      subst e8
      obtain ⟨hd, hhd⟩ : ∃ hd, hd = la.hs.getD i 0 := ⟨_, rfl⟩
      have cg' : wr.cell? ⟨gh, i, none⟩ = some (.int .i64 hd) := by rw [hhd, getD_at (by rw [E4.out]; exact hin)]; exact cg
      have gne : Hid (gh ≠ ga ∧ R ≠ ga) := ⟨by have := own_ge OHr.out (show nh.ownBlock = some gh by rw [hv9]; rfl); have := ga0.out; omega, by have := gR.out; have := ga0.out; omega⟩
      rw [← hhd] at HA1
      obtain ⟨nd, hnd⟩ : ∃ nd, nd = p.nd.getD i nd0 := ⟨_, rfl⟩
      rw [← hnd] at HA1
      have hndL : Hid (nd = p.nd[i]'(by rw [HNN.out]; exact hin)) := by rw [hnd]; exact getD_at (by rw [HNN.out]; exact hin)
      obtain ⟨gn, nc9, hv8, gnlt, _, cn, _⟩ := own_nd HP.out.nd i (by show i < p.nd.length; rw [HNN.out]; exact hin)
      have e7 : na = some ⟨gn, 0, none⟩ := by have q := hv8.symm.trans HNV.out; simp only [Value.slice.injEq] at q; exact q.1.symm
      subst e7
      have cn' : wr.cell? ⟨gn, i * 8, none⟩ = some (.int .i64 nd.cur) := by rw [hndL.out]; exact cn
      have gnne : Hid (gn ≠ ga) := fun e => own_apart HP.out.nd HP.out.at' (by decide) gn (by rw [hv8]; rfl) (by rw [e]; rfl)
      have HND := hide hnd
      clear cg cn hv8 hv9 hhd hnd hall1
      obtain ⟨W3, hW3⟩ : ∃ X, X = wr.setCell ⟨ga, i, none⟩ (.int .i64 (-1)) := ⟨_, rfl⟩
      obtain ⟨pp3, kk3⟩ := HP.out.setAtN HL.out i (-1)
      rw [← hW3] at pp3 kk3
      have P3 := hide pp3
      have K3 : Hid (Kp W2 W3 (fun k => k = ga)) := HK.out.trans kk3 (fun _ e => Or.inl e)
      have R3 : Hid (W3.heap[R]? = some (.cells (rpA la nh nm) 39)) := getL kk3 Rr.out gne.out.2
      have cg3 : W3.cell? ⟨gh, i, none⟩ = some (.int .i64 hd) := by rw [hW3]; unfold World.cell?; rw [Below.heap_setCell _ _ _ gh gne.out.1]; exact cg'
      have cn3 : W3.cell? ⟨gn, i * 8, none⟩ = some (.int .i64 nd.cur) := by rw [hW3]; unfold World.cell?; rw [Below.heap_setCell _ _ _ gn gnne.out]; exact cn'
      have L3 : Hid ((ati.set i (-1)).length = n) := by rw [List.length_set]; exact HL.out
      replace hW3 := hide hW3
      clear pp3 kk3 cg' cn' x3 x4 x5 x7 x8
      go_upto_region 9 with fail
      rw [← hW3.out]
      clear hW3 x1 x9 AC AF
      have y3 : W3.cell? ⟨R, 3, none⟩ = some (.int .i64 3) := by rw [cell_row R3.out, ← HO.out]; rfl
      obtain ⟨gb, bc9, hv7, _, _, cb⟩ := own_bl P3.out.ba i (by show i < p.ba.length; rw [HNB.out]; exact hin)
      have cb3 : W3.cell? ⟨gb, i, none⟩ = some (.bool (p.ba.getD i false)) := by rw [getD_at (by rw [HNB.out]; exact hin)]; exact cb
      have x7 : W3.cell? ⟨B, 7, none⟩ = some (.slice (some ⟨gb, 0, none⟩) n bc9) := by
        have q := P3.out.cells.2.2.2.2.2.2.2.1
        rw [hv7] at q
        have e : ({ p with at' := ati.set i (-1) } : Pl).ba.length = n := HNB.out
        rw [e] at q
        exact q
      have y4 : W3.cell? ⟨R, 4, none⟩ = some (.slice (some ⟨gh, 0, none⟩) n hvc) := by rw [cell_row R3.out, ← VH.out]; rfl
      clear cb hv7
      cases hb : p.ba.getD i false with
      | true =>
        rw [hb] at cb3
        have r0 := HA1.out.2.1 hb
        have RES := hide (restored_any P3.out i (by show i < p.nd.length; rw [HNN.out]; exact hin) (by show i < (ati.set i (-1)).length; rw [L3.out]; exact hin) (by show p.nd.length ≤ 16; rw [HNN.out]; exact n16) (by show (ati.set i (-1)).length ≤ 16; rw [L3.out]; exact n16) hd nd hndL.out r0.1 r0.2.1 r0.2.2.1 r0.2.2.2)
        have MS : Hid (((missL al i).length : Int) = ((missL al (i + 1)).length : Int)) := by rw [missL_succ, if_pos (by rw [show ((true, 0) : Bool × Int) = al0 from rfl, HA1.out.1, hb])]; exact rfl
        have HB9 := hide hb
        clear cn3 hb r0
        go_upto_region 20 with fail
        clear y3
        go_wp2_with fail
        refine Calls.mono RES.out ?_
        rintro e W4 ⟨rfl, p4, k4⟩
        have P4 := hide p4
        have K4 : Hid (Kp W2 W4 (fun k => k = ga)) := K3.out.trans (k4.mono (fun q e => by simpa [Value.ownBlock] using e.symm)) (fun _ e => Or.inl e)
        clear p4 k4 RES
        go_wp2_with fail
        have LL : ((ati.set i (-1)).set i nd.cur).length = n := by rw [List.length_set]; exact L3.out
        refine ⟨⟨i + 1, (ati.set i (-1)).set i nd.cur, by omega, rfl, by rw [MS.out], LL, P4.out, K4.out, fun j hj => ?_⟩, by simp [intOf]; omega⟩
        rw [getD_setI (by rw [L3.out]; exact hin), getD_setI (by rw [HL.out]; exact hin)]
        by_cases e : j = i
        · rw [if_pos e, e, if_pos HB9.out, HND.out]
        · rw [if_neg e, if_neg e]
          exact HJ.out j (by omega)
      | false =>
        rw [hb] at cb3
        have h9 : hd = -1 := HA1.out.2.2 hb
        rw [h9] at cg3
        obtain ⟨m1, m2⟩ := miss_at al i (by rw [HAL.out]; exact hin) (by rw [HA1.out.1, hb])
        rw [← HMS.out] at m1 m2
        obtain ⟨mk, hmk⟩ : ∃ mk, mk = (missL al i).length := ⟨_, rfl⟩
        have MS : Hid (((missL al (i + 1)).length : Int) = (mk : Int) + 1) := by rw [missL_succ, if_neg (by rw [show ((true, 0) : Bool × Int) = al0 from rfl, HA1.out.1, hb]; simp), List.length_append, ← hmk]; exact rfl
        rw [← hmk] at m1 m2 ⊢
        have OM3 : W3.ownsRow w.heap.size 3 1 nm la.ms.length (ints la.ms) := own_kp OM2.out K3.out (fun q e f => by have := own_ge OM2.out e; have := ga0.out; omega)
        obtain ⟨gm, mc9, hv6, _, _, cm⟩ := own_read OM3 rfl mk m1
        rw [getD_at m1] at m2
        rw [m2] at cm
        have y5 : W3.cell? ⟨R, 5, none⟩ = some (.slice (some ⟨gm, 0, none⟩) la.ms.length mc9) := by rw [cell_row R3.out, ← hv6]; rfl
        obtain ⟨ml, hml⟩ : ∃ ml, ml = la.ms.length := ⟨_, rfl⟩
        have l16 := LA.out.2
        rw [← hml] at y5 m1 l16
        have q1 : decide ((mk : Int) ≥ (ml : Int)) = false := decide_eq_false (by omega)
        have q2 : decide ((ml : Int) ≤ (mk : Int)) = false := decide_eq_false (by omega)
        have q3 : (mk : Int) < (ml : Int) := by omega
        have HB9 := hide hb
        clear cn3 hb h9 hv6 OM3 hml hmk m2
        go_upto_region 22 with fail
        clear y3
        go_wp2_with fail
        refine ⟨⟨i + 1, ati.set i (-1), by omega, rfl, by rw [MS.out], L3.out, P3.out, K3.out, fun j hj => ?_⟩, by simp [intOf]; omega⟩
        rw [getD_setI (by rw [HL.out]; exact hin)]
        by_cases e : j = i
        · rw [if_pos e, e, if_neg (by rw [HB9.out]; simp)]
        · rw [if_neg e]
          exact HJ.out j (by omega)
end Go.Proofs.Ytpleakkhbfhdkaa.Cn
namespace Go.Proofs.Ytpleakkhbfhdkaa.Cn
open Go.RowKit
def feF (p : Pl) : Nat → Bool := fun i => p.fe.getD i false
def baF (p : Pl) : Nat → Bool := fun i => p.ba.getD i false
def ndF (p : Pl) : Nat → Nd := fun i => p.nd.getD i nd0
def atF (L : List Int) : Nat → Int := fun i => L.getD i (-1)
theorem ended_any {N : Nat} {w : World} {B C : Nat} {S : Nat → Prop} {nv lv fv bv av : Value} {p : Pl} (h : PlX N w B C S nv lv fv bv av p) {n : Nat} (hf : p.c.fine) (hj0 : p.job ≠ 0) (hnn : p.nd.length = n) (hna : p.at'.length = n) (hnb : p.ba.length = n) (n1 : 1 ≤ n) (n16 : n ≤ 16) (he : EndI n p.job p.kind p.ver p.bk (baF p) (ndF p) p.c.last) :
    Calls Try.prog 55 #[.pointer (some ⟨B, 0, none⟩)] w fun e w' => e = .returned (.bool true) ∧ ∃ at2, at2.length = n ∧ PlX N w' B C S nv lv fv bv av { p with at' := at2 } ∧ Below N w w' ∧ AtI n p.job p.bk (ndF p) (atF at2) := by
  rcases he.out with ⟨o, b, m, a⟩ | ⟨b, o, a, al, l1, l2, l3⟩
  · refine Calls.mono (ended_1 h hf hj0 hnn hna hnb n1 n16 he.job he.kind he.ver he.len o b m (fun i hi => ⟨(a i hi).1, (a i hi).2.2.2⟩)) ?_
    rintro e w' ⟨rfl, at2, q1, q2, q3, q4⟩
    refine ⟨rfl, at2, q1, q2, q3, fun i hi _ => ?_⟩
    have r := a i hi
    show (ndF p i).cur = at2.getD i (-1) ∧ _
    rw [q4 i hi]
    exact ⟨r.2.2.2, r.2.1, Or.inl ⟨r.2.2.1, b⟩⟩
  · rcases o with ⟨o, m⟩ | ⟨o, m⟩
    · have em : (miss al).length = 0 := by rw [← l2, m]; rfl
      have al1 := miss_none (r := ⟨0, 0, 0, al, 0, 0⟩) l1 em
      have bt : ∀ i, i < n → p.ba.getD i false = true := fun i hi => (l3 i hi).symm.trans (al1 i hi)
      refine Calls.mono (ended_2 h hf hj0 hnn hna hnb n1 n16 he.job he.kind he.ver he.len o b m (fun i hi => ⟨bt i hi, (a i hi).1 (bt i hi)⟩)) ?_
      rintro e w' ⟨rfl, at2, q1, q2, q3, q4⟩
      refine ⟨rfl, at2, q1, q2, q3, fun i hi _ => ?_⟩
      have r := (a i hi).1 (bt i hi)
      show (ndF p i).cur = at2.getD i (-1) ∧ _
      rw [q4 i hi]
      exact ⟨rfl, r.2.2.1, Or.inr r.2.2.2⟩
    · refine Calls.mono (ended_3 h hf hj0 hnn hna hnb n1 n16 he.job he.kind he.ver he.len o b al l1 l2 m (fun i hi => ⟨l3 i hi, (a i hi).1, (a i hi).2⟩)) ?_
      rintro e w' ⟨rfl, at2, q1, q2, q3, q4⟩
      refine ⟨rfl, at2, q1, q2, q3, fun i hi h0 => ?_⟩
      have q5 := q4 i hi
      have h0' : 0 ≤ at2.getD i (-1) := h0
      cases bb : p.ba.getD i false with
      | true =>
        have r := (a i hi).1 bb
        show (ndF p i).cur = at2.getD i (-1) ∧ _
        rw [q5, if_pos bb]
        exact ⟨rfl, r.2.2.1, Or.inr r.2.2.2⟩
      | false =>
        rw [q5, if_neg (by rw [bb]; simp)] at h0'
        omega
theorem ite_yes {p : Prop} [Decidable p] {A B : Prop} (hp : p) (h : A) : if p then A else B := by rw [if_pos hp]; exact h
theorem wp_apM {w : World} {o : Oper} {a : Act} {K : Act → World → Prop} {Q : Exit → Act → World → Prop} (x y : Operand) (ho : o.op = .call { callee := .builtin .append, args := #[x, y], argTypes := #[30, 30] }) (base : Nat) (v : Value) (L : List Mg) (hx : a.eval x = v) (hv : w.ownsRow base 44 11 v L.length (mgs L)) (g : Nat) (m : Mg) (hy : a.eval y = .slice (some ⟨g, 0, none⟩) 1 1) (hg : w.heap[g]? = some (.cells (mgV m) 44)) (hl : L.length ≤ 1000000000000) (hb : base ≤ w.heap.size)
    (h : ∀ v' w', w'.ownsRow base 44 11 v' (L.length + 1) (mgs (L ++ [m])) → w.grownBy w' v.ownBlock → (v'.ownBlock = v.ownBlock ∨ v'.ownBlock = some w.heap.size) → K (a.put o.dst v') w') : o.wp Try.prog a w K Q := by
  obtain ⟨i0, hi, hz0, hz1, hz2⟩ := mg_parts mg_infos
  obtain ⟨v', w', hr, h2, h3, _, h5⟩ := run_append_own_at (P := Try.prog) w base 30 o.type 44 i0 _ 11 104 Try.underlying30 hi hz0 hz1 hz2 rfl (by decide) v L.length (mgs L) hv ⟨g, 0, none⟩ 1 1 (mgs [m]) (by rw [mgs_one]; rfl) (by
    rw [mgs_one]
    intro j u hj
    rw [Addr.add_mid, Nat.zero_add, cell_row hg]
    simpa using hj) (mgs_oneCell _) (mg_room hl).1 (mg_room hl).2 hb
  rw [← mgs_append] at h2
  unfold Oper.wp execOp
  simp only [ho, resolve, invoke, builtin, Sem.run_bind, Sem.run_pure, Result.andThen_ok, List.map_toArray, List.map_cons, List.map_nil, hx, hy, hr]
  exact h v' w' h2 h3 h5
/-- a letter more -/
theorem PlX.app {N : Nat} {w w1 : World} {B C : Nat} {S : Nat → Prop} {nv lv lv' fv bv av : Value} {p : Pl} {m : Mg} (h : PlX N w B C S nv lv fv bv av p) (ho : w1.ownsRow N 44 11 lv' (p.lt.length + 1) (mgs (p.lt ++ [m]))) (hg : w.grownBy w1 lv.ownBlock) (hn : lv'.ownBlock = lv.ownBlock ∨ lv'.ownBlock = some w.heap.size) :
    w1.heap[B]? = w.heap[B]? ∧ PlX N (w1.setCell ⟨B, 2, none⟩ lv') B C S nv lv' fv bv av { p with lt := p.lt ++ [m] } ∧ Kp w (w1.setCell ⟨B, 2, none⟩ lv') (fun k => k = B ∨ lv.ownBlock = some k) := by
  have kg := Kp.of_grown hg
  have lB : lv.ownBlock ≠ some B := fun e => h.ne.2.1 B e rfl
  have hB : w1.heap[B]? = w.heap[B]? := kg.block B (blk_lt h.ob) (fun e => lB e.symm)
  have ob1 := hB.trans h.ob
  have kp : Kp w1 (w1.setCell ⟨B, 2, none⟩ lv') (fun k => k = B) := (Kp.refl w1 (fun k => k = B)).set (Or.inl rfl) _ _
  have ap : ∀ {e sz n : Nat} {u : Value} {xs : List Value}, w.ownsRow N e sz u n xs → e ≠ 44 → e ≠ 106 → (w1.setCell ⟨B, 2, none⟩ lv').ownsRow N e sz u n xs := fun hr he hp => by
    refine own_kp (own_kp hr kg (fun k e f => own_apart hr h.lt he k e f.symm)) kp (fun k e f => row_type hr h.ob hp k e f)
  have ls : ∀ k, lv'.ownBlock = some k → ¬ S k := fun k e s => by
    rcases hn with q | q
    · exact h.sl k (q.symm.trans e) s
    · rw [q] at e
      have := h.ct.lt k s
      simp at e
      omega
  refine ⟨hB, ⟨set_row ob1 2 lv', ?_, ap h.nd (by decide) (by decide), ?_, ap h.fe (by decide) (by decide), ap h.ba (by decide) (by decide), ap h.at' (by decide) (by decide), h.sB, h.sn, ls, h.sf, h.sb, h.sa, h.fb, h.gB, h.gS, ?_⟩, ?_⟩
  · exact (h.ct.kp kg (fun k e => h.sl k e.symm)).kp kp (fun k e s => h.sB (e ▸ s))
  · show World.ownsRow _ N _ 11 lv' (p.lt ++ [m]).length _
    rw [List.length_append]
    exact own_kp ho kp (fun k e f => row_type ho ob1 (by decide) k e f)
  · exact Nat.le_trans h.gN (Nat.le_trans kg.size kp.size)
  · exact (kg.mono (fun k e => Or.inr e.symm)).trans kp (fun k e => Or.inl (Or.inl e))
def bkL (b : Bool) (L : List Mg) : Bool := b || L.any fun m => m.kind == 7
theorem bkL_iff (b : Bool) (L : List Mg) : bkL b L = true ↔ b = true ∨ ∃ m ∈ L, m.kind = 7 := by simp [bkL]
theorem bkL_succ (b : Bool) (L : List Mg) (i : Nat) (hi : i < L.length) : bkL b (L.take (i + 1)) = (bkL b (L.take i) || (L[i].kind == 7)) := by
  unfold bkL
  rw [List.take_succ_eq_append_getElem hi, List.any_append]
  simp [Bool.or_assoc]
theorem bkL_mono (b : Bool) (L : List Mg) (i : Nat) (h : bkL b L = false) : bkL b (L.take i) = false := by
  cases q : bkL b (L.take i) with
  | false => rfl
  | true =>
    rcases (bkL_iff _ _).1 q with a | ⟨m, hm, hk⟩
    · rw [(bkL_iff b L).2 (Or.inl a)] at h; exact absurd h (by simp)
    · rw [(bkL_iff b L).2 (Or.inr ⟨m, List.mem_of_mem_take hm, hk⟩)] at h; exact absurd h (by simp)
theorem allT_of {L : List Bool} {n : Nat} (hl : L.length = n) (h : ∀ i, i < n → L.getD i false = true) : allT L = true := allT_yes (fun i hi => by have := h i (by omega); rwa [getD_at hi] at this)
/-- what goes out is right -/
theorem out_right {p : Pl} {n : Nat} {bk' : Bool} {m : Mg} (h : OutI n p.job p.kind p.ver bk' (feF p) m) (hn : p.nd.length = n) (hf : p.fe.length = n) (b : Bool) (hb : bk' = false → b = false) (L : List Mg) : RgI { p with bk := b, lt := L } m := by
  refine ⟨h.rq.fr, h.td0, by show m.td < (p.nd.length : Int); rw [hn]; exact h.td1, h.rq.id.trans h.ep, h.ep, h.code, h.prev, h.emp.1, h.emp.2, ?_⟩
  rcases h.rq.kd with k | k | k
  · obtain ⟨a1, a2⟩ := h.fet k
    obtain ⟨b1, b2⟩ := h.rq.fe h.ep k
    exact Or.inl ⟨k, a1, hb a2, b1, b2⟩
  · obtain ⟨a1, a2⟩ := h.swp k
    obtain ⟨b1, b2⟩ := h.rq.sw h.ep k
    refine Or.inr (Or.inl ⟨k, hb a1, b1, b2, ?_⟩)
    by_cases q : p.kind = 2
    · exact Or.inl q
    · exact Or.inr ⟨q, allT_of hf (a2.elim (fun f => absurd f q) id)⟩
  · exact Or.inr (Or.inr ⟨k, (h.rq.ba h.ep k).1, h.bck k⟩)
end Go.Proofs.Ytpleakkhbfhdkaa.Cn
