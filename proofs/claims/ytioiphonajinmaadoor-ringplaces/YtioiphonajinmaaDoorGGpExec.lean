import Derived.Test.YtioiphonajinmaaDoorGlLoc
import Derived.Test.YtioiphonajinmaaDoorGGmMade
import Derived.Test.YtioiphonajinmaaDoorGGlDoc
import Derived.Test.YtioiphonajinmaaDoorRows
import Derived.Lib.LaidTab
import Derived.Lib.LaidU8
namespace Go.Proofs.YtioiphonajinmaaDoor
open Go.RowKit
theorem run_ldS {w : World} {b o : Nat} {v : Value} (hc : w.cell? ⟨b, o, none⟩ = some v) : (Instr.loadAt 9 (.pointer (some ⟨b, o, none⟩))).run Tryd.prog w = .ok v w := by
  go_simp
theorem exec_ldS {ρ : Operand → Value} {op : Oper} {w : World} {b o : Nat} {v : Value} (x : Operand) (ho : op.op = .load 9 x) (hx : ρ x = .pointer (some ⟨b, o, none⟩)) (hc : w.cell? ⟨b, o, none⟩ = some v) : (execOp ρ op).run Tryd.prog w = .ok (.value v) w := by
  unfold execOp
  simp only [ho, hx, run_ldS hc, Sem.run_bind, Result.andThen_ok, Sem.run_pure]
theorem exec_eqS {ρ : Operand → Value} {op : Oper} {w : World} {s : ByteArray} {t2 : TypeId} (x y : Operand) (ho : op.op = .binOp .eql 9 x y t2) (hx : ρ x = .string s) (hy : ρ y = .string s) : (execOp ρ op).run Tryd.prog w = .ok (.value (.bool true)) w := by
  unfold execOp
  simp only [ho, hx, hy]
  go_simp
theorem exec_lssT {ρ : Operand → Value} {op : Oper} {w : World} {a b : Int} {t2 : TypeId} (x y : Operand) (ho : op.op = .binOp .lss 3 x y t2) (hx : ρ x = .int .i64 a) (hy : ρ y = .int .i64 b) (h : a < b) : (execOp ρ op).run Tryd.prog w = .ok (.value (.bool true)) w := by
  unfold execOp
  simp only [ho, hx, hy]
  go_simp
theorem exec_pickT {ρ : Operand → Value} {op : Oper} {w : World} (x y z : Operand) (ho : op.op = .pick x y z) (hx : ρ x = .bool true) (hy : ρ y = .bool true) : (execOp ρ op).run Tryd.prog w = .ok (.value (.bool true)) w := by
  unfold execOp
  simp only [ho, hx, hy]
  go_simp
end Go.Proofs.YtioiphonajinmaaDoor
namespace Go.Proofs.YtioiphonajinmaaDoor
open Go.RowKit
theorem ClAt.set1 {w : World} {b : Nat} {st : ByteArray} {x : Nat → Int} {nv : Value} (h : ClAt w b st x nv) (y : Int) : ClAt (w.setCell ⟨b, 2, none⟩ (.int .i64 y)) b st (upd x 1 y) nv := by
  unfold ClAt at *
  simp only [World.setCell, Array.getElem?_modify, if_true, h, Option.map_some]
  rfl
theorem ClAt.set2 {w : World} {b : Nat} {st : ByteArray} {x : Nat → Int} {nv : Value} (h : ClAt w b st x nv) (y : Int) : ClAt (w.setCell ⟨b, 3, none⟩ (.int .i64 y)) b st (upd x 2 y) nv := by
  unfold ClAt at *
  simp only [World.setCell, Array.getElem?_modify, if_true, h, Option.map_some]
  rfl
/-- what the loop over the zones keeps -/
structure ZnI (base : Nat) (W0 : World) (st : ByteArray) (x : Nat → Int) (ns : List ND) (dB g cap q : Nat) (w : World) : Prop where
  bel : Below base W0 w
  cl : ClAt w dB st x (.slice (some ⟨g, 0, none⟩) ns.length cap)
  tw : ∃ zs, zs.length = ns.length ∧ Tw (base + 2) w (zP q ns) (.slice (some ⟨g, 0, none⟩) ns.length cap) zs
theorem ZnI.step {base : Nat} {W0 : World} {st : ByteArray} {x : Nat → Int} {ns : List ND} {dB g cap q : Nat} {w : World} (h : ZnI base W0 st x ns dB g cap q w) (hq : q < ns.length) : ZnI base W0 st x ns dB g cap (q + 1) (w.setCell ⟨g, q * 2, none⟩ (.int .i64 0)) := by
  obtain ⟨h1, h2, zs, hz, hT⟩ := h
  obtain ⟨zs', hz', hT'⟩ := hT.zone hz hq
  have hg := own_lt hT.row (g := g) rfl
  refine ⟨h1.setCell (p := ⟨g, q * 2, none⟩) (by show base ≤ g; omega) _, ?_, zs', hz', hT'⟩
  refine (Below.heap_setCell _ _ _ _ fun e => ?_).trans h2
  rcases hT.row.2 with ⟨e3, _⟩ | ⟨g3, cap3, cur3, e3, _, hg3, _⟩
  · cases e3
  · injection e3 with e4
    injection e4 with e4
    injection e4 with e4
    subst e4
    exact blk_not h2 hg3 (by decide) e
theorem Tw.other {base : Nat} {W : World} {ns : List ND} {vl : Value} {zs : List (Int × Value)} {B j : Nat} {t : TypeId} {cs : Array Value} {z : Nat × Nat} {v : Value} (h : Tw base W ns vl zs) (hB : W.heap[B]? = some (.cells cs t z)) (h1 : t ≠ 38) (h2 : t ≠ 3) : Tw base (W.setCell ⟨B, j, none⟩ v) ns vl zs := by
  have key : ∀ (e : TypeId) (sz n : Nat) (u : Value) (xs : List Value), t ≠ e → W.ownsRow base e sz u n xs → (W.setCell ⟨B, j, none⟩ v).ownsRow base e sz u n xs := fun e sz n u xs hne ho => own_keep ho fun i hi => by
    refine Below.heap_setCell _ _ _ _ fun e' => ?_
    rcases ho.2 with ⟨e3, _⟩ | ⟨g3, cap3, cur3, e3, _, hg3, _⟩
    · rw [e3] at hi; cases hi
    · rw [e3] at hi
      have : g3 = i := by simpa [Value.ownBlock] using hi
      subst this
      exact blk_not hB hg3 hne e'.symm
  exact ⟨key _ _ _ _ _ h1 h.row, h.z, fun q hq hq' => key _ _ _ _ _ h2 (h.p q hq hq')⟩
theorem ZnI.set1 {base : Nat} {W0 : World} {st : ByteArray} {x : Nat → Int} {ns : List ND} {dB g cap q : Nat} {w : World} (h : ZnI base W0 st x ns dB g cap q w) (y : Int) (hd : base ≤ dB) : ZnI base W0 st (upd x 1 y) ns dB g cap q (w.setCell ⟨dB, 2, none⟩ (.int .i64 y)) := by
  obtain ⟨h1, h2, zs, hz, hT⟩ := h
  exact ⟨h1.setCell (p := ⟨dB, 2, none⟩) hd _, h2.set1 y, zs, hz, hT.other h2 (by decide) (by decide)⟩
theorem ZnI.set2 {base : Nat} {W0 : World} {st : ByteArray} {x : Nat → Int} {ns : List ND} {dB g cap q : Nat} {w : World} (h : ZnI base W0 st x ns dB g cap q w) (y : Int) (hd : base ≤ dB) : ZnI base W0 st (upd x 2 y) ns dB g cap q (w.setCell ⟨dB, 3, none⟩ (.int .i64 y)) := by
  obtain ⟨h1, h2, zs, hz, hT⟩ := h
  exact ⟨h1.setCell (p := ⟨dB, 3, none⟩) hd _, h2.set2 y, zs, hz, hT.other h2 (by decide) (by decide)⟩
theorem ZnI.fz {base : Nat} {W0 : World} {st : ByteArray} {x : Nat → Int} {ns : List ND} {dB g cap q : Nat} {w : World} (h : ZnI base W0 st x ns dB g cap q w) (i : Nat) : w.frozen? ⟨g, i, none⟩ = false := by
  obtain ⟨h1, h2, zs, hz, hT⟩ := h
  rcases hT.row.2 with ⟨e3, _⟩ | ⟨g3, cap3, cur3, e3, _, hg3, _⟩
  · cases e3
  · injection e3 with e4
    injection e4 with e4
    injection e4 with e4
    subst e4
    unfold World.frozen?
    rw [hg3]
    simp
theorem ZnI.z {base : Nat} {W0 : World} {st : ByteArray} {x : Nat → Int} {ns : List ND} {dB g cap q : Nat} {w : World} (h : ZnI base W0 st x ns dB g cap q w) (hq : q < ns.length) : ∃ y : Int, w.cell? ⟨g, q * 2, none⟩ = some (.int .i64 y) := by
  obtain ⟨h1, h2, zs, hz, hT⟩ := h
  have hr := hT.row
  rw [hz] at hr
  have := hr.cellAt (q * 2) (by omega)
  rw [(ndc_at zs q (by omega)).1] at this
  exact ⟨_, this⟩
theorem lcC_lt {x : Nat → Int} {k : ByteArray} (h : 1 ≤ x 2) : lcC x k < x 2 := by
  unfold lcC
  have := Nat.mod_lt (hiF (((md5L k.data.toList).drop 4).take 4)) (show 0 < (x 2).toNat by omega)
  omega
set_option maxHeartbeats 16000000 in
set_option maxRecDepth 100000 in
set_option linter.unusedSimpArgs false in
set_option linter.unusedVariables false in
theorem places_any (N : Nat) (w : World) (a b c d : Int) (H Z M : List Int) (aH : Option Addr) (bH oH cH : Nat) (aZ : Option Addr) (bZ oZ cZ : Nat) (aM : Option Addr) (bM oM cM : Nat) (key : ByteArray) (wi ch : Int) (hH : PsAt N w aH bH oH H) (hZ : PsAt N w aZ bZ oZ Z) (hM : PsAt N w aM bM oM M) (hN : N ≤ w.heap.size) (hks : key.size ≤ 9223372036854775807) (hD : 3 ≤ w.heap.size ∧ TabS 1 w ∧ TabT 2 w) :
    Calls Tryd.prog 3 #[.agg #[.int .i64 a, .int .i64 b, .int .i64 c, .int .i64 d, .slice aH H.length cH, .slice aZ Z.length cZ, .slice aM M.length cM], .string key, .int .i64 wi, .int .i64 ch] w fun e w' => e = .returned (.bool true) ∧ Below w.heap.size w w' := by
  obtain ⟨W0, hW0⟩ : ∃ W0, W0 = w.alloc (.cells #[.int .i64 a, .int .i64 b, .int .i64 c, .int .i64 d, .slice aH H.length cH, .slice aZ Z.length cZ, .slice aM M.length cM] 24) := ⟨_, rfl⟩
  have B0 : Hid (Below w.heap.size w W0) := by rw [hW0]; exact (Below.refl _ _).alloc (Nat.le_refl _) _
  have hb : W0.heap[w.heap.size]? = some (.cells #[.int .i64 a, .int .i64 b, .int .i64 c, .int .i64 d, .slice aH H.length cH, .slice aZ Z.length cZ, .slice aM M.length cM] 24) := by rw [hW0]; exact heap_last _ _
  have bn := B0.out.mono hN
  have MA := hide (made_any N W0 a b c d H Z M aH bH oH cH aZ bZ oZ cZ aM bM oM cM (hH.below bn) (hZ.below bn) (hM.below bn) (Nat.le_trans hN B0.out.size))
  have z0 : W0.cell? ⟨w.heap.size, 0, none⟩ = some (.int .i64 a) := by unfold World.cell?; rw [hb]; rfl
  have z1 : W0.cell? ⟨w.heap.size, 1, none⟩ = some (.int .i64 b) := by unfold World.cell?; rw [hb]; rfl
  have z2 : W0.cell? ⟨w.heap.size, 2, none⟩ = some (.int .i64 c) := by unfold World.cell?; rw [hb]; rfl
  have z3 : W0.cell? ⟨w.heap.size, 3, none⟩ = some (.int .i64 d) := by unfold World.cell?; rw [hb]; rfl
  have z4 : W0.cell? ⟨w.heap.size, 4, none⟩ = some (.slice aH H.length cH) := by unfold World.cell?; rw [hb]; rfl
  have z5 : W0.cell? ⟨w.heap.size, 5, none⟩ = some (.slice aZ Z.length cZ) := by unfold World.cell?; rw [hb]; rfl
  have z6 : W0.cell? ⟨w.heap.size, 6, none⟩ = some (.slice aM M.length cM) := by unfold World.cell?; rw [hb]; rfl
  have D0 : Hid (TabD W0) := ⟨by rw [hW0]; simp only [World.size_alloc]; omega, hD.2.1.below B0.out (by have := hD.1; omega), hD.2.2.below B0.out (by have := hD.1; omega)⟩
  clear hb bn hH hZ hM hD
  go_enter Tryd.func3, Tryd.ntmps3
  go_upto_region 1 with fail
  rw [← hW0]
  clear hW0
  go_wp2_with fail
  refine Calls.mono MA.out ?_
  rintro e W1 ⟨st, x, ns, vl, zs, rfl, hz, hT, hE, hs, hb⟩
  have HE := hide hE
  obtain ⟨_, hsf, hnf, hdl, hR, _⟩ := errP_all hE
  have n16 := nfP_len hnf
  have p64 : ptN ns ≤ 64 := hdl.p2
  have l1 : 1 ≤ x 1 ∧ x 1 ≤ 16 := sfP_lim hsf 1 (by omega)
  have l2 : 1 ≤ x 2 ∧ x 2 ≤ 16 := sfP_lim hsf 2 (by omega)
  obtain ⟨ao, nb, cap, pv, hvl, hns⟩ := tw_read hT hz n16.2 p64
  subst hvl
  have B1 := hide (B0.out.trans (hb.mono B0.out.size))
  have D1 := hide (D0.out.below hb)
  have NS := hide hns
  clear hb MA hT hE hsf hnf hdl hR hns z0 z1 z2 z3 z4 z5 z6 B0 hz D0
  obtain ⟨W2, hW2⟩ : ∃ W2, W2 = W1.alloc (.cells (clA st x (.slice ao ns.length cap)) 27) := ⟨_, rfl⟩
  have C2 : Hid (ClAt W2 W1.heap.size st x (.slice ao ns.length cap)) := by rw [hW2]; exact new_cl _ _ _ _
  have B2 : Hid (Below W1.heap.size W1 W2) := by rw [hW2]; exact (Below.refl _ _).alloc (Nat.le_refl _) _
  go_upto_region 2 with (refine wpList_storeCl (w0 := W1) rfl (.tmp 9) (.tmp 18) rfl W1.heap.size (by kernel_rfl) rfl st x (.slice ao ns.length cap) rfl (by kernel_rfl) _ rfl rfl ?_)
  rw [← hW2]
  clear hW2
  have N2 := hide (NS.out.below B2.out)
  have D2 := hide (D1.out.below B2.out)
  have TW := hide (twin_any W1.heap.size W2 st x ao nb 0 cap pv ns N2.out B2.out.size)
  go_wp2_with (refine wpList_loadCl rfl (.tmp 9) rfl W1.heap.size st x _ (by kernel_rfl) C2.out ?_)
  refine Calls.mono TW.out ?_
  rintro e W3 ⟨vl2, zs2, rfl, hz2, hT2, hb⟩
  obtain ⟨ao2, nb2, cap2, pv2, hvl, hns2⟩ := tw_read hT2 hz2 n16.2 p64
  subst hvl
  have C3 := hide (C2.out.below hb)
  have N3 := hide (N2.out.below (hb.mono B2.out.size))
  have B3 := hide (B2.out.trans (hb.mono B2.out.size))
  have D3 := hide (D2.out.below hb)
  have LO := locate_any W3.heap.size W3 st x ao2 nb2 0 cap2 pv2 ns key hns2 (Nat.le_refl _) (by omega) hks D3.out
  obtain ⟨p, pc, hh, hV⟩ := lcV_some st x ns key
  have HV := hide hV
  obtain ⟨k, hk⟩ : ∃ k, k = lcE st x ns key := ⟨_, rfl⟩
  have HK := hide hk
  rw [HV.out, ← HK.out] at LO
  replace LO := hide LO
  clear hb hT2 hns2 TW C2 N2 B2 hz2 NS D1 D2 hV hk
  go_wp2_with fail
  refine Calls.mono LO.out ?_
  rintro e W4 ⟨rfl, hb⟩
  obtain ⟨W5, hW5⟩ : ∃ W5, W5 = (W4.alloc (.cells (plA 0 0 ⟨#[]⟩) 30)).setRow W4.heap.size (plA p pc hh) := ⟨_, rfl⟩
  have y4 : Hid ((W4.alloc (.cells (plA 0 0 ⟨#[]⟩) 30)).heap[W4.heap.size]? = some (.cells (plA 0 0 ⟨#[]⟩) 30)) := heap_last _ _
  have P5 : Hid (PlAt W5 W4.heap.size p pc hh) := by rw [hW5]; exact setRow_heap _ _ _ _ _ _ y4.out
  have b5 : Below W4.heap.size W4 W5 := by rw [hW5]; exact below_setRow ((Below.refl _ _).alloc (Nat.le_refl _) _) (Nat.le_refl _) _
  have b35 := hb.trans (b5.mono hb.size)
  have C5 := hide (C3.out.below b35)
  have N5 := hide (N3.out.below (b35.mono B3.out.size))
  have B5 := hide (B3.out.trans (b35.mono B3.out.size))
  have D5 := hide (D3.out.below b35)
  clear hb b5 b35 C3 N3 B3 D3 LO
  go_upto_region 3 with (refine wpList_store_row rfl 30 (.tmp 10) (.tmp 24) rfl W4.heap.size (plA p pc hh) rfl rfl 30 _ y4.out infoPl3 rfl (plA_one _ _ _) ?_)
  rw [show (W4.alloc (.cells #[.int .i64 0, .int .i64 0, .string ⟨#[]⟩] 30)).setRow W4.heap.size (plA p pc hh) = W5 from hW5.symm]
  clear hW5 y4
  have fin : Hid (Below w.heap.size w W5) := B1.out.trans (B5.out.mono B1.out.size)
  by_cases hk0 : key.size = 0
  · have hk2 : k = 32 := HK.out.trans (lcE_key HE.out (Or.inl hk0))
    subst hk2
    have hke : key = ⟨#[]⟩ := ByteArray.ext (Array.toList_inj.1 (by rw [List.length_eq_zero_iff.1 (show key.data.toList.length = 0 by rw [size_data]; exact hk0)]))
    subst hke
    clear HK HV HE C5 N5 B5 D5 P5 B1 hk0
    go_wp2_with (go_at_call 10; refine Calls.mono (num_any _ _) ?_; rintro e w' ⟨rfl, rfl⟩)
    go_ret
    exact ⟨rfl, fin.out⟩
  have hne : key.toList.isEmpty = false := by
    rw [toList_data]
    cases hd : key.data.toList with
    | nil => exact absurd (by rw [← size_data, hd]; rfl) hk0
    | cons a b => rfl
  by_cases hk1 : 255 < key.size
  · have hk2 : k = 32 := HK.out.trans (lcE_key HE.out (Or.inr hk1))
    subst hk2
    have hk1' : (255 : Int) < (key.size : Int) := by omega
    clear HK HV HE C5 N5 B5 D5 P5 B1
    go_wp2_with (go_at_call 10; refine Calls.mono (num_any _ _) ?_; rintro e w' ⟨rfl, rfl⟩)
    go_ret
    exact ⟨rfl, fin.out⟩
  have hk1' : ¬ (255 : Int) < (key.size : Int) := by omega
  have hz := lcE_ok HE.out (k := key) (by omega)
  have hk2 : k = 0 := HK.out.trans hz
  subst hk2
  have HV2 : Hid (p = lcP ns key ∧ pc = lcC x key ∧ hh = lcH x key) := by
    have := HV.out.symm.trans (lcV_ok hz)
    simp only [plA, Array.mk.injEq, List.cons.injEq, Value.int.injEq, Value.string.injEq, and_true, true_and] at this
    exact ⟨this.1, this.2.1, this.2.2⟩
  clear HK HV hz
  have TW := hide (twin_any W1.heap.size W5 st x ao nb 0 cap pv ns N5.out B5.out.size)
  go_upto_region 5 with fail
  clear hne hk1'
  go_wp2_with (refine wpList_loadCl rfl (.tmp 9) rfl W1.heap.size st x _ (by kernel_rfl) C5.out ?_)
  refine Calls.mono TW.out ?_
  rintro e W6 ⟨vl3, zs3, rfl, hz3, hT3, hb⟩
  obtain ⟨g, cap3, hvl⟩ := own_some hT3.row (by omega)
  rw [hz3] at hvl
  subst hvl
  have B6 : Hid (Below W5.heap.size W5 W6) := hb
  have R6 := hide hT3
  clear hb hT3 TW N5
  obtain ⟨W7, hW7⟩ : ∃ W7, W7 = W6.alloc (.cells (clA st x (.slice (some ⟨g, 0, none⟩) ns.length cap3)) 27) := ⟨_, rfl⟩
  have I7 : Hid (ZnI W5.heap.size W5 st x ns W6.heap.size g cap3 0 W7) := by
    have b7 : Below W6.heap.size W6 W7 := by rw [hW7]; exact (Below.refl _ _).alloc (Nat.le_refl _) _
    refine ⟨B6.out.trans (b7.mono B6.out.size), ?_, zs3, hz3, ?_⟩
    · rw [hW7]
      exact new_cl _ _ _ _
    · rw [zP_0]
      exact R6.out.keep b7
  have hdB : W5.heap.size ≤ W6.heap.size := B6.out.size
  go_upto_region 6 with (refine wpList_storeCl (w0 := W6) rfl (.tmp 12) (.tmp 37) rfl W6.heap.size (by kernel_rfl) rfl st x (.slice (some ⟨g, 0, none⟩) ns.length cap3) rfl (by kernel_rfl) _ rfl rfl ?_)
  rw [← hW7]
  clear hW7 R6 B6
  generalize W6.heap.size = dB at *
  generalize hpB : W4.heap.size = pB at *
  -- the width
  have MO := mod_any wi 16 (by omega) (by omega) W7
  obtain ⟨r1, hr1⟩ : ∃ r, wi % 16 = r := ⟨_, rfl⟩
  have e1 : 0 ≤ r1 := by rw [← hr1]; exact Int.emod_nonneg _ (by omega)
  have e2 : r1 < 16 := by rw [← hr1]; exact Int.emod_lt_of_pos _ (by omega)
  rw [hr1] at MO
  clear hr1
  replace MO := hide MO
  have dz := I7.out.cl.fz 2
  have dx := I7.out.cl.x1
  go_upto_region 7 with (go_at_call 11; refine Calls.mono MO.out ?_; rintro e w' ⟨rfl, rfl⟩)
  obtain ⟨y1, hy1⟩ : ∃ y, y = 1 + r1 := ⟨_, rfl⟩
  rw [← hy1]
  have f1 : 1 ≤ y1 ∧ y1 ≤ 16 := by omega
  clear hy1 e1 e2 dz dx MO
  have I8 := hide (I7.out.set1 y1 hdB)
  generalize W7.setCell ⟨dB, 2, none⟩ (.int .i64 y1) = W8 at *
  clear I7
  -- the chunks
  have MO := mod_any ch (x 2) (by omega) (by omega) W8
  obtain ⟨r2, hr2⟩ : ∃ r, ch % x 2 = r := ⟨_, rfl⟩
  have e1 : 0 ≤ r2 := by rw [← hr2]; exact Int.emod_nonneg _ (by omega)
  have e2 : r2 < x 2 := by rw [← hr2]; exact Int.emod_lt_of_pos _ (by omega)
  rw [hr2] at MO
  clear hr2
  replace MO := hide MO
  have cx := (C5.out.below I8.out.bel).x2
  have dz := I8.out.cl.fz 3
  have dx := I8.out.cl.x2
  go_upto_region 8 with (go_at_call 11; refine Calls.mono MO.out ?_; rintro e w' ⟨rfl, rfl⟩)
  obtain ⟨y2, hy2⟩ : ∃ y, y = 1 + r2 := ⟨_, rfl⟩
  rw [← hy2]
  have f2 : 1 ≤ y2 ∧ y2 ≤ x 2 := by omega
  clear hy2 e1 e2 dz dx MO cx
  have I9 := hide (I8.out.set2 y2 hdB)
  generalize W8.setCell ⟨dB, 3, none⟩ (.int .i64 y2) = W9 at *
  clear I8
  -- the zones
  go_wp2_with fail
  go_loopw [13] (fun vi wr => ∃ (q : Nat), q ≤ ns.length ∧ vi = .int .i64 (q : Int) ∧ Hid (ZnI W5.heap.size W5 st (upd (upd x 1 y1) 2 y2) ns dB g cap3 q wr)) (fun vi _ => ns.length - (intOf vi).toNat)
  case atStart => exact ⟨0, Nat.zero_le _, rfl, I9⟩
  case round =>
    obtain ⟨q, hq, rfl, I⟩ := hrel
    clear I9
    have nvw := I.out.cl.nv
    by_cases hql : q < ns.length
    case pos =>
      have hqi : (q : Int) < (ns.length : Int) := by omega
      obtain ⟨yz, hyz⟩ := I.out.z hql
      have fz := I.out.fz (q * 2)
      have I2 := hide (I.out.step hql)
      go_wp2_with fail
      go_roundw
      case rel => exact ⟨q + 1, by omega, by go_num, I2⟩
      case measure => simp [intOf]; omega
    case neg =>
      obtain rfl : q = ns.length := by omega
      have E10 := hide I.out.cl
      obtain ⟨zs9, hz9, hT9⟩ := I.out.tw
      have b9 := I.out.bel
      have hne : ¬ ((ns.length : Int) < (ns.length : Int)) := by omega
      obtain ⟨ao9, nb9, cap9, pv9, hvl, hns9⟩ := tw_read hT9 (by rw [zP_len]; exact hz9) (by rw [zP_len]; exact n16.2) (by rw [show ptN (zP ns.length ns) = ptN ns from congrArg List.length (zP_flat _ ns)]; exact p64)
      rw [zP_len] at hvl
      injection hvl with v1 v2 v3
      subst v1
      subst v3
      have P10 := hide (P5.out.below b9)
      have C10 := hide (C5.out.below b9)
      have D10 := hide (D5.out.below b9)
      have B10 := hide (B5.out.trans (b9.mono (by have := B5.out.size; omega)))
      have HE2 := hide (places_ok (q := ns.length) HE.out f1.1 f1.2 f2.1 f2.2)
      have LO := locate_any wr.heap.size wr st (upd (upd x 1 y1) 2 y2) (some ⟨g, 0, none⟩) nb9 0 cap3 pv9 (zP ns.length ns) key hns9 (Nat.le_refl _) (by omega) hks D10.out
      rw [lcE_ok HE2.out (by omega), lcV_ok (lcE_ok HE2.out (by omega)), zP_len] at LO
      have hP2 : lcP (zP ns.length ns) key = p := by
        rw [HV2.out.1]
        unfold lcP
        rw [show ptN (zP ns.length ns) = ptN ns from congrArg List.length (zP_flat _ ns)]
      rw [hP2] at LO
      obtain ⟨c2, hc2⟩ : ∃ c2, c2 = lcC (upd (upd x 1 y1) 2 y2) key := ⟨_, rfl⟩
      obtain ⟨h2, hh2⟩ : ∃ h2, h2 = lcH (upd (upd x 1 y1) 2 y2) key := ⟨_, rfl⟩
      rw [← hc2, ← hh2] at LO
      have HC2 : Hid (c2 < y2) := by
        have := lcC_lt (x := upd (upd x 1 y1) 2 y2) (k := key) (by rw [upd_at]; exact f2.1)
        rw [← hc2, upd_at] at this
        exact this
      have HC1 : Hid (pc < x 2) := by
        have := lcC_lt (x := x) (k := key) l2.1
        rw [← HV2.out.2.1] at this
        exact this
      obtain ⟨w1, hw1⟩ : ∃ w1 : Nat, (w1 : Int) = x 1 := ⟨(x 1).toNat, by omega⟩
      obtain ⟨w2, hw2⟩ : ∃ w2 : Nat, (w2 : Int) = y1 := ⟨y1.toNat, by omega⟩
      have HH1 : Hid (hh = (strOf (md5L key.data.toList)).extract (16 - w1) 16) := by
        show _ = _
        rw [HV2.out.2.2]
        unfold lcH
        rw [show (x 1).toNat = w1 by omega]
      have HH2 : Hid (h2 = (strOf (md5L key.data.toList)).extract (16 - w2) 16) := by
        show _ = _
        rw [hh2]
        unfold lcH
        rw [upd_ne _ _ (by omega), upd_at, show y1.toNat = w2 by omega]
      replace LO := hide LO
      clear I hT9 b9 hns9 C5 P5 D5 B5 HV2 hP2 hc2 hh2 HE HE2 hz9
      go_wp2_with (refine wpList_loadCl rfl (.tmp 12) rfl dB st _ _ (by kernel_rfl) E10.out ?_)
      refine Calls.mono LO.out ?_
      rintro e W11 ⟨rfl, hb⟩
      obtain ⟨W12, hW12⟩ : ∃ W12, W12 = (W11.alloc (.cells (plA 0 0 ⟨#[]⟩) 30)).setRow W11.heap.size (plA p c2 h2) := ⟨_, rfl⟩
      have y11 : Hid ((W11.alloc (.cells (plA 0 0 ⟨#[]⟩) 30)).heap[W11.heap.size]? = some (.cells (plA 0 0 ⟨#[]⟩) 30)) := heap_last _ _
      have Q12 : Hid (PlAt W12 W11.heap.size p c2 h2) := by rw [hW12]; exact setRow_heap _ _ _ _ _ _ y11.out
      have b12 : Below W11.heap.size W11 W12 := by rw [hW12]; exact below_setRow ((Below.refl _ _).alloc (Nat.le_refl _) _) (Nat.le_refl _) _
      have bb := hb.trans (b12.mono hb.size)
      have P12 := hide (P10.out.below bb)
      have C12 := hide (C10.out.below bb)
      have E12 := hide (E10.out.below bb)
      have D12 := hide (D10.out.below bb)
      have B12 := hide (B10.out.trans (bb.mono B10.out.size))
      clear hb b12 bb P10 C10 E10 D10 B10 LO nvw
      go_upto_region 13 with (refine wpList_store_row rfl 30 (.tmp 14) (.tmp 64) rfl W11.heap.size (plA p c2 h2) rfl rfl 30 _ y11.out infoPl3 rfl (plA_one _ _ _) ?_)
      rw [show (W11.alloc (.cells #[.int .i64 0, .int .i64 0, .string ⟨#[]⟩] 30)).setRow W11.heap.size (plA p c2 h2) = W12 from hW12.symm]
      clear hW12 y11
      generalize W11.heap.size = qB at *
      obtain ⟨W13, hW13⟩ : ∃ W13, W13 = W12.alloc (.cells #[.string key] 9) := ⟨_, rfl⟩
      have B13 : Hid (Below W12.heap.size W12 W13) := by rw [hW13]; exact (Below.refl _ _).alloc (Nat.le_refl _) _
      have k13 : W13.cell? ⟨W12.heap.size, 0, none⟩ = some (.string key) := by
        unfold World.cell?
        rw [show W13.heap[W12.heap.size]? = some (.cells #[.string key] 9) from by rw [hW13]; exact heap_last _ _]
        rfl
      have MD := hide (md5_1 key W12.heap.size W13 (by omega) (D12.out.below B13.out) k13)
      clear k13
      go_wp2_with fail
      rw [← hW13]
      clear hW13
      refine Calls.mono MD.out ?_
      rintro e W14 ⟨rfl, hb⟩
      have bb := B13.out.trans (hb.mono B13.out.size)
      have P14 := hide (P12.out.below bb)
      have Q14 := hide (Q12.out.below bb)
      have C14 := hide (C12.out.below bb)
      have E14 := hide (E12.out.below bb)
      have B14 := hide (B1.out.trans ((B12.out.trans (bb.mono B12.out.size)).mono (by have := B1.out.size; omega)))
      clear hb bb P12 Q12 C12 E12 D12 B12 B13 MD
      have hsz := md5L_size key.data.toList
      generalize strOf (md5L key.data.toList) = md at *
      have p0 := P14.out.c0
      have q0 := Q14.out.c0
      have f16 : w1 ≤ 16 ∧ w2 ≤ 16 := by omega
      have hsz' : (md.size : Int) = 16 := by omega
      have HSZ := hide hsz
      have HW1 := hide hw1
      have HW2 := hide hw2
      clear hw1 hw2 f1 l1 hsz
      go_upto_region 16 with (go_at_call 10; refine Calls.mono (num_any _ _) ?_; rintro e w' ⟨rfl, rfl⟩)
      clear hsz' p0 q0
      have SS : Hid (PlAt W14 pB p pc hh ∧ PlAt W14 qB p c2 h2 ∧ ClAt W14 W1.heap.size st x (.slice ao ns.length cap) ∧ ClAt W14 dB st (upd (upd x 1 y1) 2 y2) (.slice (some ⟨g, 0, none⟩) ns.length cap3)) := ⟨P14.out, Q14.out, C14.out, E14.out⟩
      clear P14 Q14 C14 E14
      refine wp_region_held_drew (S := fun Y => PlAt Y pB p pc hh ∧ PlAt Y qB p c2 h2 ∧ ClAt Y W1.heap.size st x (.slice ao ns.length cap) ∧ ClAt Y dB st (upd (upd x 1 y1) 2 y2) (.slice (some ⟨g, 0, none⟩) ns.length cap3)) (by kernel_rfl) SS.out (fun hHeld => ?_)
      refine wpAnyH_take (i := 0) (v := (.pointer (some ⟨pB, 2, none⟩))) rfl (by kernel_rfl) (by kernel_rfl) (by kernel_rfl) (fun _ _ _ h => h) (Or.inl ⟨by kernel_rfl, ?_⟩) (by assumption) ?_
      · intro w' hSw
        (try dsimp only at hSw)
        go_simp
      (try simp only [Act.put, List.getElem_toArray, List.getElem_cons_zero, List.getElem_cons_succ, List.setIfInBounds_toArray, List.set_cons_zero, List.set_cons_succ])
      refine wpAnyH_take (i := 1) (v := (.string hh)) rfl (by kernel_rfl) (by kernel_rfl) (by kernel_rfl) (fun _ _ _ h => h) (Or.inl ⟨by kernel_rfl, ?_⟩) (by assumption) ?_
      · intro w' hSw
        (try dsimp only at hSw)
        exact exec_ldS (.tmp 89) rfl (by kernel_rfl) hSw.1.c2
      (try simp only [Act.put, List.getElem_toArray, List.getElem_cons_zero, List.getElem_cons_succ, List.setIfInBounds_toArray, List.set_cons_zero, List.set_cons_succ])
      refine wpAnyH_take (i := 2) (v := (.string md)) rfl (by kernel_rfl) (by kernel_rfl) (by kernel_rfl) (fun _ _ _ h => h) (Or.inl ⟨by kernel_rfl, ?_⟩) (by assumption) ?_
      · intro w' hSw
        (try dsimp only at hSw)
        exact exec_move (.tmp 16) rfl (by kernel_rfl)
      (try simp only [Act.put, List.getElem_toArray, List.getElem_cons_zero, List.getElem_cons_succ, List.setIfInBounds_toArray, List.set_cons_zero, List.set_cons_succ])
      refine wpAnyH_take (i := 3) (v := (.pointer (some ⟨W1.heap.size, 2, none⟩))) rfl (by kernel_rfl) (by kernel_rfl) (by kernel_rfl) (fun _ _ _ h => h) (Or.inl ⟨by kernel_rfl, ?_⟩) (by assumption) ?_
      · intro w' hSw
        (try dsimp only at hSw)
        go_simp
      (try simp only [Act.put, List.getElem_toArray, List.getElem_cons_zero, List.getElem_cons_succ, List.setIfInBounds_toArray, List.set_cons_zero, List.set_cons_succ])
      refine wpAnyH_take (i := 4) (v := (.int .i64 (w1 : Int))) rfl (by kernel_rfl) (by kernel_rfl) (by kernel_rfl) (fun _ _ _ h => h) (Or.inl ⟨by kernel_rfl, ?_⟩) (by assumption) ?_
      · intro w' hSw
        (try dsimp only at hSw)
        (have q := ClAt.x1 hSw.2.2.1; rw [← HW1.out] at q; exact exec_ld (.tmp 92) rfl (Or.inl rfl) (by kernel_rfl) q)
      (try simp only [Act.put, List.getElem_toArray, List.getElem_cons_zero, List.getElem_cons_succ, List.setIfInBounds_toArray, List.set_cons_zero, List.set_cons_succ])
      refine wpAnyH_take (i := 5) (v := (.int .i64 ((16 - w1 : Nat) : Int))) rfl (by kernel_rfl) (by kernel_rfl) (by kernel_rfl) (fun _ _ _ h => h) (Or.inl ⟨by kernel_rfl, ?_⟩) (by assumption) ?_
      · intro w' hSw
        (try dsimp only at hSw)
        exact exec_subM (a := 16) (.const (.int .i64 16)) (.tmp 93) rfl (by kernel_rfl) (by kernel_rfl) (by omega) (by omega)
      (try simp only [Act.put, List.getElem_toArray, List.getElem_cons_zero, List.getElem_cons_succ, List.setIfInBounds_toArray, List.set_cons_zero, List.set_cons_succ])
      refine wpAnyH_take (i := 6) (v := (.string hh)) rfl (by kernel_rfl) (by kernel_rfl) (by kernel_rfl) (fun _ _ _ h => h) (Or.inl ⟨by kernel_rfl, ?_⟩) (by assumption) ?_
      · intro w' hSw
        (try dsimp only at hSw)
        (rw [HH1.out]; exact exec_cutN HSZ.out (by omega) (by omega) (.tmp 91) (.tmp 94) rfl (by kernel_rfl) (by kernel_rfl))
      (try simp only [Act.put, List.getElem_toArray, List.getElem_cons_zero, List.getElem_cons_succ, List.setIfInBounds_toArray, List.set_cons_zero, List.set_cons_succ])
      refine wpAnyH_take (i := 7) (v := (.bool true)) rfl (by kernel_rfl) (by kernel_rfl) (by kernel_rfl) (fun _ _ _ h => h) (Or.inl ⟨by kernel_rfl, ?_⟩) (by assumption) ?_
      · intro w' hSw
        (try dsimp only at hSw)
        exact exec_eqS (s := hh) (.tmp 90) (.tmp 95) rfl (by kernel_rfl) (by kernel_rfl)
      (try simp only [Act.put, List.getElem_toArray, List.getElem_cons_zero, List.getElem_cons_succ, List.setIfInBounds_toArray, List.set_cons_zero, List.set_cons_succ])
      refine wpAnyH_take (i := 8) (v := (.bool true)) rfl (by kernel_rfl) (by kernel_rfl) (by kernel_rfl) (fun _ _ _ h => h) (Or.inl ⟨by kernel_rfl, ?_⟩) (by assumption) ?_
      · intro w' hSw
        (try dsimp only at hSw)
        exact exec_move (.tmp 96) rfl (by kernel_rfl)
      (try simp only [Act.put, List.getElem_toArray, List.getElem_cons_zero, List.getElem_cons_succ, List.setIfInBounds_toArray, List.set_cons_zero, List.set_cons_succ])
      refine wpAnyH_take (i := 9) (v := (.pointer (some ⟨qB, 2, none⟩))) rfl (by kernel_rfl) (by kernel_rfl) (by kernel_rfl) (fun _ _ _ h => h) (Or.inl ⟨by kernel_rfl, ?_⟩) (by assumption) ?_
      · intro w' hSw
        (try dsimp only at hSw)
        go_simp
      (try simp only [Act.put, List.getElem_toArray, List.getElem_cons_zero, List.getElem_cons_succ, List.setIfInBounds_toArray, List.set_cons_zero, List.set_cons_succ])
      refine wpAnyH_take (i := 10) (v := (.string h2)) rfl (by kernel_rfl) (by kernel_rfl) (by kernel_rfl) (fun _ _ _ h => h) (Or.inl ⟨by kernel_rfl, ?_⟩) (by assumption) ?_
      · intro w' hSw
        (try dsimp only at hSw)
        exact exec_ldS (.tmp 98) rfl (by kernel_rfl) hSw.2.1.c2
      (try simp only [Act.put, List.getElem_toArray, List.getElem_cons_zero, List.getElem_cons_succ, List.setIfInBounds_toArray, List.set_cons_zero, List.set_cons_succ])
      refine wpAnyH_take (i := 11) (v := (.string md)) rfl (by kernel_rfl) (by kernel_rfl) (by kernel_rfl) (fun _ _ _ h => h) (Or.inl ⟨by kernel_rfl, ?_⟩) (by assumption) ?_
      · intro w' hSw
        (try dsimp only at hSw)
        exact exec_move (.tmp 16) rfl (by kernel_rfl)
      (try simp only [Act.put, List.getElem_toArray, List.getElem_cons_zero, List.getElem_cons_succ, List.setIfInBounds_toArray, List.set_cons_zero, List.set_cons_succ])
      refine wpAnyH_take (i := 12) (v := (.pointer (some ⟨dB, 2, none⟩))) rfl (by kernel_rfl) (by kernel_rfl) (by kernel_rfl) (fun _ _ _ h => h) (Or.inl ⟨by kernel_rfl, ?_⟩) (by assumption) ?_
      · intro w' hSw
        (try dsimp only at hSw)
        go_simp
      (try simp only [Act.put, List.getElem_toArray, List.getElem_cons_zero, List.getElem_cons_succ, List.setIfInBounds_toArray, List.set_cons_zero, List.set_cons_succ])
      refine wpAnyH_take (i := 13) (v := (.int .i64 (w2 : Int))) rfl (by kernel_rfl) (by kernel_rfl) (by kernel_rfl) (fun _ _ _ h => h) (Or.inl ⟨by kernel_rfl, ?_⟩) (by assumption) ?_
      · intro w' hSw
        (try dsimp only at hSw)
        (have q := ClAt.x1 hSw.2.2.2; rw [upd_ne _ _ (by omega), upd_at, ← HW2.out] at q; exact exec_ld (.tmp 101) rfl (Or.inl rfl) (by kernel_rfl) q)
      (try simp only [Act.put, List.getElem_toArray, List.getElem_cons_zero, List.getElem_cons_succ, List.setIfInBounds_toArray, List.set_cons_zero, List.set_cons_succ])
      refine wpAnyH_take (i := 14) (v := (.int .i64 ((16 - w2 : Nat) : Int))) rfl (by kernel_rfl) (by kernel_rfl) (by kernel_rfl) (fun _ _ _ h => h) (Or.inl ⟨by kernel_rfl, ?_⟩) (by assumption) ?_
      · intro w' hSw
        (try dsimp only at hSw)
        exact exec_subM (a := 16) (.const (.int .i64 16)) (.tmp 102) rfl (by kernel_rfl) (by kernel_rfl) (by omega) (by omega)
      (try simp only [Act.put, List.getElem_toArray, List.getElem_cons_zero, List.getElem_cons_succ, List.setIfInBounds_toArray, List.set_cons_zero, List.set_cons_succ])
      refine wpAnyH_take (i := 15) (v := (.string h2)) rfl (by kernel_rfl) (by kernel_rfl) (by kernel_rfl) (fun _ _ _ h => h) (Or.inl ⟨by kernel_rfl, ?_⟩) (by assumption) ?_
      · intro w' hSw
        (try dsimp only at hSw)
        (rw [HH2.out]; exact exec_cutN HSZ.out (by omega) (by omega) (.tmp 100) (.tmp 103) rfl (by kernel_rfl) (by kernel_rfl))
      (try simp only [Act.put, List.getElem_toArray, List.getElem_cons_zero, List.getElem_cons_succ, List.setIfInBounds_toArray, List.set_cons_zero, List.set_cons_succ])
      refine wpAnyH_take (i := 16) (v := (.bool true)) rfl (by kernel_rfl) (by kernel_rfl) (by kernel_rfl) (fun _ _ _ h => h) (Or.inl ⟨by kernel_rfl, ?_⟩) (by assumption) ?_
      · intro w' hSw
        (try dsimp only at hSw)
        exact exec_eqS (s := h2) (.tmp 99) (.tmp 104) rfl (by kernel_rfl) (by kernel_rfl)
      (try simp only [Act.put, List.getElem_toArray, List.getElem_cons_zero, List.getElem_cons_succ, List.setIfInBounds_toArray, List.set_cons_zero, List.set_cons_succ])
      refine wpAnyH_take (i := 17) (v := (.bool true)) rfl (by kernel_rfl) (by kernel_rfl) (by kernel_rfl) (fun _ _ _ h => h) (Or.inl ⟨by kernel_rfl, ?_⟩) (by assumption) ?_
      · intro w' hSw
        (try dsimp only at hSw)
        exact exec_pickT (.tmp 97) (.tmp 105) (.const (.bool false)) rfl (by kernel_rfl) (by kernel_rfl)
      (try simp only [Act.put, List.getElem_toArray, List.getElem_cons_zero, List.getElem_cons_succ, List.setIfInBounds_toArray, List.set_cons_zero, List.set_cons_succ])
      refine wpAnyH_take (i := 18) (v := (.bool true)) rfl (by kernel_rfl) (by kernel_rfl) (by kernel_rfl) (fun _ _ _ h => h) (Or.inl ⟨by kernel_rfl, ?_⟩) (by assumption) ?_
      · intro w' hSw
        (try dsimp only at hSw)
        exact exec_move (.tmp 106) rfl (by kernel_rfl)
      (try simp only [Act.put, List.getElem_toArray, List.getElem_cons_zero, List.getElem_cons_succ, List.setIfInBounds_toArray, List.set_cons_zero, List.set_cons_succ])
      refine wpAnyH_take (i := 19) (v := (.pointer (some ⟨qB, 1, none⟩))) rfl (by kernel_rfl) (by kernel_rfl) (by kernel_rfl) (fun _ _ _ h => h) (Or.inl ⟨by kernel_rfl, ?_⟩) (by assumption) ?_
      · intro w' hSw
        (try dsimp only at hSw)
        go_simp
      (try simp only [Act.put, List.getElem_toArray, List.getElem_cons_zero, List.getElem_cons_succ, List.setIfInBounds_toArray, List.set_cons_zero, List.set_cons_succ])
      refine wpAnyH_take (i := 20) (v := (.int .i64 c2)) rfl (by kernel_rfl) (by kernel_rfl) (by kernel_rfl) (fun _ _ _ h => h) (Or.inl ⟨by kernel_rfl, ?_⟩) (by assumption) ?_
      · intro w' hSw
        (try dsimp only at hSw)
        exact exec_ld (.tmp 108) rfl (Or.inl rfl) (by kernel_rfl) hSw.2.1.c1
      (try simp only [Act.put, List.getElem_toArray, List.getElem_cons_zero, List.getElem_cons_succ, List.setIfInBounds_toArray, List.set_cons_zero, List.set_cons_succ])
      refine wpAnyH_take (i := 21) (v := (.pointer (some ⟨dB, 3, none⟩))) rfl (by kernel_rfl) (by kernel_rfl) (by kernel_rfl) (fun _ _ _ h => h) (Or.inl ⟨by kernel_rfl, ?_⟩) (by assumption) ?_
      · intro w' hSw
        (try dsimp only at hSw)
        go_simp
      (try simp only [Act.put, List.getElem_toArray, List.getElem_cons_zero, List.getElem_cons_succ, List.setIfInBounds_toArray, List.set_cons_zero, List.set_cons_succ])
      refine wpAnyH_take (i := 22) (v := (.int .i64 y2)) rfl (by kernel_rfl) (by kernel_rfl) (by kernel_rfl) (fun _ _ _ h => h) (Or.inl ⟨by kernel_rfl, ?_⟩) (by assumption) ?_
      · intro w' hSw
        (try dsimp only at hSw)
        (have q := hSw.2.2.2.x2; rw [upd_at] at q; exact exec_ld (.tmp 110) rfl (Or.inl rfl) (by kernel_rfl) q)
      (try simp only [Act.put, List.getElem_toArray, List.getElem_cons_zero, List.getElem_cons_succ, List.setIfInBounds_toArray, List.set_cons_zero, List.set_cons_succ])
      refine wpAnyH_take (i := 23) (v := (.bool true)) rfl (by kernel_rfl) (by kernel_rfl) (by kernel_rfl) (fun _ _ _ h => h) (Or.inl ⟨by kernel_rfl, ?_⟩) (by assumption) ?_
      · intro w' hSw
        (try dsimp only at hSw)
        exact exec_lssT (a := c2) (b := y2) (.tmp 109) (.tmp 111) rfl (by kernel_rfl) (by kernel_rfl) HC2.out
      (try simp only [Act.put, List.getElem_toArray, List.getElem_cons_zero, List.getElem_cons_succ, List.setIfInBounds_toArray, List.set_cons_zero, List.set_cons_succ])
      refine wpAnyH_take (i := 24) (v := (.bool true)) rfl (by kernel_rfl) (by kernel_rfl) (by kernel_rfl) (fun _ _ _ h => h) (Or.inl ⟨by kernel_rfl, ?_⟩) (by assumption) ?_
      · intro w' hSw
        (try dsimp only at hSw)
        exact exec_pickT (.tmp 107) (.tmp 112) (.const (.bool false)) rfl (by kernel_rfl) (by kernel_rfl)
      (try simp only [Act.put, List.getElem_toArray, List.getElem_cons_zero, List.getElem_cons_succ, List.setIfInBounds_toArray, List.set_cons_zero, List.set_cons_succ])
      refine wpAnyH_take (i := 25) (v := (.bool true)) rfl (by kernel_rfl) (by kernel_rfl) (by kernel_rfl) (fun _ _ _ h => h) (Or.inl ⟨by kernel_rfl, ?_⟩) (by assumption) ?_
      · intro w' hSw
        (try dsimp only at hSw)
        exact exec_move (.tmp 113) rfl (by kernel_rfl)
      (try simp only [Act.put, List.getElem_toArray, List.getElem_cons_zero, List.getElem_cons_succ, List.setIfInBounds_toArray, List.set_cons_zero, List.set_cons_succ])
      refine wpAnyH_take (i := 26) (v := (.pointer (some ⟨pB, 1, none⟩))) rfl (by kernel_rfl) (by kernel_rfl) (by kernel_rfl) (fun _ _ _ h => h) (Or.inl ⟨by kernel_rfl, ?_⟩) (by assumption) ?_
      · intro w' hSw
        (try dsimp only at hSw)
        go_simp
      (try simp only [Act.put, List.getElem_toArray, List.getElem_cons_zero, List.getElem_cons_succ, List.setIfInBounds_toArray, List.set_cons_zero, List.set_cons_succ])
      refine wpAnyH_take (i := 27) (v := (.int .i64 pc)) rfl (by kernel_rfl) (by kernel_rfl) (by kernel_rfl) (fun _ _ _ h => h) (Or.inl ⟨by kernel_rfl, ?_⟩) (by assumption) ?_
      · intro w' hSw
        (try dsimp only at hSw)
        exact exec_ld (.tmp 115) rfl (Or.inl rfl) (by kernel_rfl) hSw.1.c1
      (try simp only [Act.put, List.getElem_toArray, List.getElem_cons_zero, List.getElem_cons_succ, List.setIfInBounds_toArray, List.set_cons_zero, List.set_cons_succ])
      refine wpAnyH_take (i := 28) (v := (.pointer (some ⟨W1.heap.size, 3, none⟩))) rfl (by kernel_rfl) (by kernel_rfl) (by kernel_rfl) (fun _ _ _ h => h) (Or.inl ⟨by kernel_rfl, ?_⟩) (by assumption) ?_
      · intro w' hSw
        (try dsimp only at hSw)
        go_simp
      (try simp only [Act.put, List.getElem_toArray, List.getElem_cons_zero, List.getElem_cons_succ, List.setIfInBounds_toArray, List.set_cons_zero, List.set_cons_succ])
      refine wpAnyH_take (i := 29) (v := (.int .i64 (x 2))) rfl (by kernel_rfl) (by kernel_rfl) (by kernel_rfl) (fun _ _ _ h => h) (Or.inl ⟨by kernel_rfl, ?_⟩) (by assumption) ?_
      · intro w' hSw
        (try dsimp only at hSw)
        exact exec_ld (.tmp 117) rfl (Or.inl rfl) (by kernel_rfl) hSw.2.2.1.x2
      (try simp only [Act.put, List.getElem_toArray, List.getElem_cons_zero, List.getElem_cons_succ, List.setIfInBounds_toArray, List.set_cons_zero, List.set_cons_succ])
      refine wpAnyH_take (i := 30) (v := (.bool true)) rfl (by kernel_rfl) (by kernel_rfl) (by kernel_rfl) (fun _ _ _ h => h) (Or.inl ⟨by kernel_rfl, ?_⟩) (by assumption) ?_
      · intro w' hSw
        (try dsimp only at hSw)
        exact exec_lssT (a := pc) (b := x 2) (.tmp 116) (.tmp 118) rfl (by kernel_rfl) (by kernel_rfl) HC1.out
      (try simp only [Act.put, List.getElem_toArray, List.getElem_cons_zero, List.getElem_cons_succ, List.setIfInBounds_toArray, List.set_cons_zero, List.set_cons_succ])
      refine wpAnyH_take (i := 31) (v := (.bool true)) rfl (by kernel_rfl) (by kernel_rfl) (by kernel_rfl) (fun _ _ _ h => h) (Or.inl ⟨by kernel_rfl, ?_⟩) (by assumption) ?_
      · intro w' hSw
        (try dsimp only at hSw)
        exact exec_pickT (.tmp 114) (.tmp 119) (.const (.bool false)) rfl (by kernel_rfl) (by kernel_rfl)
      (try simp only [Act.put, List.getElem_toArray, List.getElem_cons_zero, List.getElem_cons_succ, List.setIfInBounds_toArray, List.set_cons_zero, List.set_cons_succ])
      refine wpAnyH_ready (rs := [32]) (by kernel_rfl) (by simp) ?_
      refine AllReadyH.cons rfl (fun K hK => ?_) AllReadyH.nil
      go_simp
      refine hK.out _ _ (SS.out) (fun hHeld => ?_)
      clear hK
      (try simp only [Act.put, List.setIfInBounds_toArray, List.set_cons_zero, List.set_cons_succ])
      refine wpAnyH_done (by kernel_rfl) ?_ _
      clear hHeld
      go_wp2_with fail
      go_ret
      exact ⟨rfl, B14.out.drew⟩
end Go.Proofs.YtioiphonajinmaaDoor
namespace Go.Proofs.YtioiphonajinmaaDoor
open Go.RowKit Go.Lib
theorem p_gName1 : Tryd.prog.globalNamed Rows.ringPlacesRow.laid[0].1 = some 1 := by kernel_rfl
theorem p_gName2 : Tryd.prog.globalNamed Rows.ringPlacesRow.laid[1].1 = some 2 := by kernel_rfl
theorem p_gType1 : (Tryd.prog.globals[1]?).map (·.type) = some 145 := by kernel_rfl
theorem p_gType2 : (Tryd.prog.globals[2]?).map (·.type) = some 148 := by kernel_rfl
theorem p_cells48 : Tryd.prog.cellsOf 74 = 1 := by kernel_rfl
theorem p_cells64 : Tryd.prog.cellsOf 145 = 64 := by kernel_rfl
theorem p_cells3 : Tryd.prog.cellsOf 3 = 1 := by kernel_rfl
theorem p_cells4 : Tryd.prog.cellsOf 147 = 4 := by kernel_rfl
theorem p_cells44 : Tryd.prog.cellsOf 148 = 16 := by kernel_rfl
theorem p_tab_of {W : World} {name : String} {d : DataW Unit} {k : IntKind} {zs : List Int} {g : Nat} {t e : TypeId} {n : Nat} (h : VarReads Tryd.prog W name d) (hd : d = tabData k zs)
    (hg : Tryd.prog.globalNamed name = some g) (hty : (Tryd.prog.globals[g]?).map (·.type) = some t) (ht : Tryd.prog.underlying t = some (.array n e)) (he : Tryd.prog.underlying e = some (.int k)) (hce : Tryd.prog.cellsOf e = 1) (hct : Tryd.prog.cellsOf t = n) : TabIs Tryd.prog W name k zs := by
  obtain ⟨g', t', cs, fuel, p, hg', ht', hvar, hdd⟩ := h
  obtain rfl := Option.some.inj (hg.symm.trans hg')
  obtain rfl := Option.some.inj (hty.symm.trans ht')
  subst hd
  unfold TabIs
  rw [hvar, ← cells_of_tab ht he hce hct hdd]
def p_turnRows : List (List Int) := [[7, 12, 17, 22], [5, 9, 14, 20], [4, 11, 16, 23], [6, 10, 15, 21]]
theorem p_turns_cells {W : World} {fuel : Nat} {cs : List Value} {p : List MemPlace} {sp : Nat → Bool} (h : DataW.trod (fun _ => ()) Tryd.prog W 0 sp false fuel 148 cs = some (.agg (p_turnRows.map fun r => tabData .i64 r), p)) :
    ∀ j, j < 16 → cs[j]? = some (.int .i64 (trn j : Int)) := by
  cases fuel with
  | zero => simp [DataW.trod] at h
  | succ fuel =>
    simp only [DataW.trod, Tryd.underlying148, p_cells4, p_cells44] at h
    split at h
    · obtain ⟨xs, hm, hx⟩ := Option.map_eq_some_iff.1 h
      have hxs : xs.map (·.1) = p_turnRows.map fun r => (tabData .i64 r : DataW Unit) := by
        have := congrArg Prod.fst hx
        simpa using this
      have row : ∀ i, i < 4 → ∀ r, p_turnRows[i]? = some r → (cs.drop (i * 4)).take 4 = r.map fun z => Value.int .i64 z := by
        intro i hi r hr
        obtain ⟨b, hb, hf⟩ := mapM_at hm i i (by simp [hi])
        have h2 : (xs.map (·.1))[i]? = some b.1 := by simp [hb]
        rw [hxs, List.getElem?_map, hr] at h2
        have h3 : b.1 = tabData .i64 r := (Option.some.inj h2).symm
        obtain ⟨b1, b2⟩ := b
        subst h3
        exact cells_of_tab Tryd.underlying147 Tryd.underlying3 p_cells3 p_cells4 hf
      intro j hj
      have hq := row (j / 4) (by omega)
      have hcell : cs[j]? = ((cs.drop (j / 4 * 4)).take 4)[j % 4]? := by
        rw [List.getElem?_take_of_lt (by omega), List.getElem?_drop]
        congr 1
        omega
      have key : ∃ r, p_turnRows[j / 4]? = some r ∧ (r.map fun z => Value.int .i64 z)[j % 4]? = some (.int .i64 (trn j : Int)) := by
        clear hq hcell
        rcases (show j = 0 ∨ j = 1 ∨ j = 2 ∨ j = 3 ∨ j = 4 ∨ j = 5 ∨ j = 6 ∨ j = 7 ∨ j = 8 ∨ j = 9 ∨ j = 10 ∨ j = 11 ∨ j = 12 ∨ j = 13 ∨ j = 14 ∨ j = 15 by omega) with rfl | rfl | rfl | rfl | rfl | rfl | rfl | rfl | rfl | rfl | rfl | rfl | rfl | rfl | rfl | rfl <;> exact ⟨_, rfl, rfl⟩
      obtain ⟨r, hr1, hr2⟩ := key
      rw [hcell, hq r hr1]
      exact hr2
    · cases h
theorem p_tabd_of {W : World} (h : laidMet Tryd.prog Rows.ringPlacesRow.laid W) : 3 ≤ W.heap.size ∧ TabS 1 W ∧ TabT 2 W := by
  have h1 : VarReads Tryd.prog W Rows.ringPlacesRow.laid[0].1 Rows.ringPlacesRow.laid[0].2 := laidMet.reads h (List.getElem_mem _)
  have h2 : VarReads Tryd.prog W Rows.ringPlacesRow.laid[1].1 Rows.ringPlacesRow.laid[1].2 := laidMet.reads h (List.getElem_mem _)
  have t1 := p_tab_of (zs := SN) h1 rfl p_gName1 p_gType1 Tryd.underlying145 Tryd.underlying74 p_cells48 p_cells64
  have t2 : TabT 2 W := fun j hj => by
    obtain ⟨g', t', cs, fuel, p, hg', ht', hvar, hdd⟩ := h2
    obtain rfl := Option.some.inj (p_gName2.symm.trans hg')
    obtain rfl := Option.some.inj (p_gType2.symm.trans ht')
    have := p_turns_cells hdd j hj
    rw [World.var?_cell p_gName2 hvar j]
    simpa using this
  refine ⟨World.block_lt_of_cell? W _ (t2 0 (by omega)), fun j hj => ?_, t2⟩
  · rw [t1.cell p_gName1 j (by exact hj)]
    have : ∀ m : Fin 64, SN.getD m.1 0 = (sin m.1 : Int) := by decide +kernel
    rw [this ⟨j, hj⟩]
end Go.Proofs.YtioiphonajinmaaDoor
