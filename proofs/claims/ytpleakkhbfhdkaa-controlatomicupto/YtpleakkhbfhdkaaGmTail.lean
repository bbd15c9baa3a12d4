import Derived.Test.YtpleakkhbfhdkaaGGkRound
namespace Go.Proofs.Ytpleakkhbfhdkaa
open Go.RowKit
def sq2 : Code → Code
  | .seq _ b => b
  | c => c
noncomputable def tail28 : Code := sq2 (sq2 (sq2 (sq2 (sq2 (sq2 (sq2 (sq2 (sq2 (sq2 (sq2 (sq2 (sq2 (Try.f29.body.getD .skip)))))))))))))
noncomputable def tail31 : Code := sq2 (sq2 (sq2 (sq2 (sq2 (sq2 (sq2 (sq2 (sq2 (sq2 (sq2 (sq2 (sq2 (sq2 (sq2 (sq2 (Try.f29.body.getD .skip))))))))))))))))
/-- all that stands when the nodes are made -/
structure MdT (N : Nat) (w W0 : World) (a b c d : Int) (H Z M : List Int) (aH : Option Addr) (bH oH cH : Nat) (aZ : Option Addr) (bZ oZ cZ : Nat) (aM : Option Addr) (bM oM cM : Nat) (ns : List ND) (ba : Option Addr) (nn cp : Nat) (zs : List (Int × Value)) (W : World) : Prop where
  md : MdW N w W a b c d H Z M aH bH oH cH aZ bZ oZ cZ aM bM oM cM
  tw : Tw W0.heap.size W ns (.slice ba nn cp) zs
  bel : Below W0.heap.size W0 W
  s0 : W0.heap.size = w.heap.size + 2
  b0 : Below w.heap.size w W0
  hN : N ≤ w.heap.size
theorem MdT.below {N : Nat} {w W0 : World} {a b c d : Int} {H Z M : List Int} {aH : Option Addr} {bH oH cH : Nat} {aZ : Option Addr} {bZ oZ cZ : Nat} {aM : Option Addr} {bM oM cM : Nat} {ns : List ND} {ba : Option Addr} {nn cp : Nat} {zs : List (Int × Value)} {W W' : World} (h : MdT N w W0 a b c d H Z M aH bH oH cH aZ bZ oZ cZ aM bM oM cM ns ba nn cp zs W) (hb : Below W.heap.size W W') : MdT N w W0 a b c d H Z M aH bH oH cH aZ bZ oZ cZ aM bM oM cM ns ba nn cp zs W' :=
  ⟨h.md.below hb, h.tw.keep hb, h.bel.trans (hb.mono h.bel.size), h.s0, h.b0, h.hN⟩
theorem own_notV {W : World} {base sz n V g : Nat} {e : TypeId} {v : Value} {xs : List Value} {x : Nat → Int} (h : W.ownsRow base e sz v n xs) (hV : VAt W V x) (he : e ≠ 114) (hg : v.ownBlock = some g) : g ≠ V := by
  intro e1
  subst e1
  rcases h.2 with ⟨hv, _⟩ | ⟨g', cap, cur, hv, hb, hgg, _⟩
  · rw [hv] at hg
    cases hg
  · rw [hv] at hg
    injection hg with hg
    subst hg
    have h2 := hgg.symm.trans (show W.heap[g']? = _ from hV)
    injection h2 with h2
    injection h2 with _ h3
    exact he h3
theorem MdT.setV {N : Nat} {w W0 : World} {a b c d : Int} {H Z M : List Int} {aH : Option Addr} {bH oH cH : Nat} {aZ : Option Addr} {bZ oZ cZ : Nat} {aM : Option Addr} {bM oM cM : Nat} {ns : List ND} {ba : Option Addr} {nn cp : Nat} {zs : List (Int × Value)} {W : World} {V : Nat} {x : Nat → Int} (h : MdT N w W0 a b c d H Z M aH bH oH cH aZ bZ oZ cZ aM bM oM cM ns ba nn cp zs W) (hV : VAt W V x) (hl : w.heap.size + 2 ≤ V) (i : Nat) (y : Value) : MdT N w W0 a b c d H Z M aH bH oH cH aZ bZ oZ cZ aM bM oM cM ns ba nn cp zs (W.setCell ⟨V, i, none⟩ y) := by
  have hb : Below V W (W.setCell ⟨V, i, none⟩ y) := (Below.refl V W).setCell (p := ⟨V, i, none⟩) (Nat.le_refl V) y
  have oth : ∀ g, g ≠ V → (W.setCell ⟨V, i, none⟩ y).heap[g]? = W.heap[g]? := fun g hg => Below.heap_setCell _ _ _ _ hg
  have s0 := h.s0
  have hN := h.hN
  refine ⟨h.md.below2 (hb.mono hl) hN, ⟨own_keep h.tw.row fun g hg => oth g (own_notV h.tw.row hV (by decide) hg), h.tw.z, fun q hq hq' => own_keep (h.tw.p q hq hq') fun g hg => oth g (own_notV (h.tw.p q hq hq') hV (by decide) hg)⟩, h.bel.trans (hb.mono (by omega)), h.s0, h.b0, h.hN⟩
theorem exec_ldi {ρ : Operand → Value} {op : Oper} {w : World} {b o : Nat} {v : Value} (x : Operand) (ho : op.op = .load 3 x) (hx : ρ x = .pointer (some ⟨b, o, none⟩)) (hc : w.cell? ⟨b, o, none⟩ = some v) : (execOp ρ op).run Try.prog w = .ok (.value v) w := by
  have h1 : (Instr.loadAt 3 (.pointer (some ⟨b, o, none⟩))).run Try.prog w = .ok v w := by go_simp
  unfold execOp
  simp only [ho, hx, h1, Sem.run_bind, Result.andThen_ok, Sem.run_pure]
theorem exec_lds {ρ : Operand → Value} {op : Oper} {w : World} {b o : Nat} {v : Value} (x : Operand) (ho : op.op = .load 37 x) (hx : ρ x = .pointer (some ⟨b, o, none⟩)) (hc : w.cell? ⟨b, o, none⟩ = some v) : (execOp ρ op).run Try.prog w = .ok (.value v) w := by
  have h1 : (Instr.loadAt 37 (.pointer (some ⟨b, o, none⟩))).run Try.prog w = .ok v w := by go_simp
  unfold execOp
  simp only [ho, hx, h1, Sem.run_bind, Result.andThen_ok, Sem.run_pure]
theorem exec_subi {ρ : Operand → Value} {op : Oper} {w : World} {a b : Int} {t2 : TypeId} (x y : Operand) (ho : op.op = .binOp .sub 3 x y t2) (hx : ρ x = .int .i64 a) (hy : ρ y = .int .i64 b) (h0 : -9223372036854775808 ≤ a - b) (h1 : a - b < 9223372036854775808) : (execOp ρ op).run Try.prog w = .ok (.value (.int .i64 (a - b))) w := by
  unfold execOp
  simp only [ho, hx, hy]
  go_simp
  exact i64_in h0 h1
theorem exec_faR {ρ : Operand → Value} {op : Oper} {w : World} {B k : Nat} (hk : k = 2 ∨ k = 6) (x : Operand) (ho : op.op = .fieldAddr 72 x k) (hx : ρ x = .pointer (some ⟨B, 0, none⟩)) : (execOp ρ op).run Try.prog w = .ok (.value (.pointer (some ⟨B, k, none⟩))) w := by
  unfold execOp
  simp only [ho, hx]
  rcases hk with rfl | rfl <;> go_simp
theorem exec_ixV {ρ : Operand → Value} {op : Oper} {w : World} {V : Nat} {i : Nat} (hi : i < 21) (x y : Operand) (ho : op.op = .indexAddr 114 x y) (hx : ρ x = .pointer (some ⟨V, 0, none⟩)) (hy : ρ y = .int .i64 (i : Int)) : (execOp ρ op).run Try.prog w = .ok (.value (.pointer (some ⟨V, i, none⟩))) w := by
  have hi' : (i : Int) < 21 := by omega
  unfold execOp
  simp only [ho, hx, hy]
  go_simp
set_option maxHeartbeats 16000000 in
set_option maxRecDepth 100000 in
set_option linter.unusedSimpArgs false in
set_option linter.unusedVariables false in
theorem made31 (N : Nat) (w W0 : World) (a b c d : Int) (H Z M : List Int) (aH : Option Addr) (bH oH cH : Nat) (aZ : Option Addr) (bZ oZ cZ : Nat) (aM : Option Addr) (bM oM cM : Nat) (ns : List ND) (ba : Option Addr) (nn cp : Nat) (zs : List (Int × Value)) (W : World) (V : Nat) (x : Nat → Int) (u3 u4 u6 u7 u8 u9 u10 u11 u12 u14 u15 u16 u17 u18 u19 u20 u21 u22 u23 u24 u25 u26 u27 u28 u29 u30 u31 u32 u33 u34 u35 u36 u37 u38 u39 u40 u41 u42 u43 u44 u45 u46 u47 u48 u49 u50 u51 u52 u53 u54 u55 u56 u57 u58 u59 u60 u61 u62 u63 u64 u65 u66 u67 u68 u69 u70 u71 u72 u73 u74 u75 u76 u77 u78 u79 u80 u81 u82 u83 u84 u85 u86 u87 u88 u89 u90 u91 u92 u93 u94 u95 u96 u97 u98 u99 u100 u101 u102 u103 u104 u105 u106 u107 u108 u109 u110 u111 u112 u113 u114 u115 u116 u117 u118 u119 u120 u121 u122 u123 u124 u125 u126 u127 u128 u129 u130 u131 u132 u133 u134 u135 u136 u137 u138 u139 u140 u141 u142 u143 u144 u145 u146 u147 u148 u149 u150 u151 u152 u153 u154 u155 u156 u157 u158 u159 u160 u161 u162 u163 u164 u165 u166 u167 u168 u169 u170 u171 u172 u173 u174 u175 u176 u177 u178 u179 u180 u181 u182 u183 u184 u185 u186 u187 u188 u189 u190 u191 u192 u193 u194 u195 u196 u197 u198 u199 u200 u201 u202 u203 u204 u205 u206 u207 u208 u209 u210 u211 : Value) (h : MdT N w W0 a b c d H Z M aH bH oH cH aZ bZ oZ cZ aM bM oM cM ns ba nn cp zs W) (hV : VAt W V x) (hl : w.heap.size + 2 ≤ V) (hzs : zs.length = ns.length)
    (hx : ∀ i, i < 11 → loS i ≤ x i ∧ x i ≤ hiS i) (hb : x 4 ≤ x 7) (hm : x 9 ≤ x 10) (hnf : nfP ns = true) (hdl : Dealt ns) (h4 : x 0 ≤ (kpN ns : Int)) (h5 : (ptN ns : Int) * x 0 * x 2 ≤ 512) :
    Code.wp Try.prog tail31 (bodyPost Try.prog Try.f29 fun e w' => ∃ st x ns vl zs, e = .returned (.agg (clA st x vl)) ∧ zs.length = ns.length ∧ Tw (w.heap.size + 2) w' ns vl zs ∧ errP st x ns = 0 ∧ st.size ≤ 40 ∧ Below w.heap.size w w') { tmps := #[.agg #[.int .i64 a, .int .i64 b, .int .i64 c, .int .i64 d, .slice aH H.length cH, .slice aZ Z.length cZ, .slice aM M.length cM], .pointer (some ⟨w.heap.size, 0, none⟩), .pointer (some ⟨w.heap.size + 1, 0, none⟩), u3, u4, .slice ba nn cp, u6, u7, u8, u9, u10, u11, u12, .pointer (some ⟨V, 0, none⟩), u14, u15, u16, u17, u18, u19, u20, u21, u22, u23, u24, u25, u26, u27, u28, u29, u30, u31, u32, u33, u34, u35, u36, u37, u38, u39, u40, u41, u42, u43, u44, u45, u46, u47, u48, u49, u50, u51, u52, u53, u54, u55, u56, u57, u58, u59, u60, u61, u62, u63, u64, u65, u66, u67, u68, u69, u70, u71, u72, u73, u74, u75, u76, u77, u78, u79, u80, u81, u82, u83, u84, u85, u86, u87, u88, u89, u90, u91, u92, u93, u94, u95, u96, u97, u98, u99, u100, u101, u102, u103, u104, u105, u106, u107, u108, u109, u110, u111, u112, u113, u114, u115, u116, u117, u118, u119, u120, u121, u122, u123, u124, u125, u126, u127, u128, u129, u130, u131, u132, u133, u134, u135, u136, u137, u138, u139, u140, u141, u142, u143, u144, u145, u146, u147, u148, u149, u150, u151, u152, u153, u154, u155, u156, u157, u158, u159, u160, u161, u162, u163, u164, u165, u166, u167, u168, u169, u170, u171, u172, u173, u174, u175, u176, u177, u178, u179, u180, u181, u182, u183, u184, u185, u186, u187, u188, u189, u190, u191, u192, u193, u194, u195, u196, u197, u198, u199, u200, u201, u202, u203, u204, u205, u206, u207, u208, u209, u210, u211], defers := [] } W := by
  have HX := hide (show _ ∧ _ ∧ _ ∧ _ ∧ _ ∧ _ ∧ _ ∧ _ from ⟨hx, hb, hm, hnf, hdl, h4, h5, hzs⟩)
  have MT := hide h
  have VV := hide hV
  clear hx hb hm hnf hdl h4 h5 hzs h hV
  simp only [tail31, Try.f29, Option.getD_some, sq2]
  have q6 := MT.out.md.c6
  have AT := at_any N W aM bM oM cM M 8 MT.out.md.pm (by omega)
  have MO := mod_any (atL M 8) 1073741824 (by omega) (by omega) W
  obtain ⟨y0, hy0⟩ : ∃ y0, atL M 8 % 1073741824 = y0 := ⟨_, rfl⟩
  have e1 : 0 ≤ y0 := by rw [← hy0]; exact Int.emod_nonneg _ (by omega)
  have e2 : y0 < 1073741824 := by rw [← hy0]; exact Int.emod_lt_of_pos _ (by omega)
  rw [hy0] at MO
  clear hy0
  generalize atL M 8 = z0 at AT MO
  replace AT := hide AT
  replace MO := hide MO
  have fz := VV.out.fz 11
  have cz := VV.out.cell 11 (by omega)
  go_upto_region 32 with (first | (go_at_call 46; refine Calls.mono AT.out ?_; rintro e w' ⟨rfl, rfl⟩) | (go_at_call 45; refine Calls.mono MO.out ?_; rintro e w' ⟨rfl, rfl⟩))
  clear q6 fz cz AT MO
  obtain ⟨y11, hy11⟩ : ∃ y : Int, y = (1 + y0) := ⟨_, rfl⟩
  rw [← hy11]
  have b11 : 1 ≤ y11 ∧ y11 ≤ 1073741824 := by omega
  clear hy11 e1 e2
  replace MT := hide (MT.out.setV VV.out hl 11 (.int .i64 y11))
  replace VV := hide (VV.out.set 11 (by omega) y11)
  generalize W.setCell ⟨V, 11, none⟩ (.int .i64 y11) = W at *
  have q6 := MT.out.md.c6
  have AT := at_any N W aM bM oM cM M 9 MT.out.md.pm (by omega)
  have MO := mod_any (atL M 9) 1073741824 (by omega) (by omega) W
  obtain ⟨y0, hy0⟩ : ∃ y0, atL M 9 % 1073741824 = y0 := ⟨_, rfl⟩
  have e1 : 0 ≤ y0 := by rw [← hy0]; exact Int.emod_nonneg _ (by omega)
  have e2 : y0 < 1073741824 := by rw [← hy0]; exact Int.emod_lt_of_pos _ (by omega)
  rw [hy0] at MO
  clear hy0
  generalize atL M 9 = z0 at AT MO
  replace AT := hide AT
  replace MO := hide MO
  have fz := VV.out.fz 12
  have cz := VV.out.cell 12 (by omega)
  go_upto_region 33 with (first | (go_at_call 46; refine Calls.mono AT.out ?_; rintro e w' ⟨rfl, rfl⟩) | (go_at_call 45; refine Calls.mono MO.out ?_; rintro e w' ⟨rfl, rfl⟩))
  clear q6 fz cz AT MO
  obtain ⟨y12, hy12⟩ : ∃ y : Int, y = (1 + y0) := ⟨_, rfl⟩
  rw [← hy12]
  have b12 : 1 ≤ y12 ∧ y12 ≤ 1073741824 := by omega
  clear hy12 e1 e2
  replace MT := hide (MT.out.setV VV.out hl 12 (.int .i64 y12))
  replace VV := hide (VV.out.set 12 (by omega) y12)
  generalize W.setCell ⟨V, 12, none⟩ (.int .i64 y12) = W at *
  have q6 := MT.out.md.c6
  have AT := at_any N W aM bM oM cM M 10 MT.out.md.pm (by omega)
  have MO := mod_any (atL M 10) 1073741824 (by omega) (by omega) W
  obtain ⟨y0, hy0⟩ : ∃ y0, atL M 10 % 1073741824 = y0 := ⟨_, rfl⟩
  have e1 : 0 ≤ y0 := by rw [← hy0]; exact Int.emod_nonneg _ (by omega)
  have e2 : y0 < 1073741824 := by rw [← hy0]; exact Int.emod_lt_of_pos _ (by omega)
  rw [hy0] at MO
  clear hy0
  generalize atL M 10 = z0 at AT MO
  replace AT := hide AT
  replace MO := hide MO
  have fz := VV.out.fz 13
  have cz := VV.out.cell 13 (by omega)
  go_upto_region 34 with (first | (go_at_call 46; refine Calls.mono AT.out ?_; rintro e w' ⟨rfl, rfl⟩) | (go_at_call 45; refine Calls.mono MO.out ?_; rintro e w' ⟨rfl, rfl⟩))
  clear q6 fz cz AT MO
  obtain ⟨y13, hy13⟩ : ∃ y : Int, y = (1 + y0) := ⟨_, rfl⟩
  rw [← hy13]
  have b13 : 1 ≤ y13 ∧ y13 ≤ 1073741824 := by omega
  clear hy13 e1 e2
  replace MT := hide (MT.out.setV VV.out hl 13 (.int .i64 y13))
  replace VV := hide (VV.out.set 13 (by omega) y13)
  generalize W.setCell ⟨V, 13, none⟩ (.int .i64 y13) = W at *
  have q6 := MT.out.md.c6
  have AT := at_any N W aM bM oM cM M 11 MT.out.md.pm (by omega)
  have MO := mod_any (atL M 11) 1024 (by omega) (by omega) W
  obtain ⟨y0, hy0⟩ : ∃ y0, atL M 11 % 1024 = y0 := ⟨_, rfl⟩
  have e1 : 0 ≤ y0 := by rw [← hy0]; exact Int.emod_nonneg _ (by omega)
  have e2 : y0 < 1024 := by rw [← hy0]; exact Int.emod_lt_of_pos _ (by omega)
  rw [hy0] at MO
  clear hy0
  generalize atL M 11 = z0 at AT MO
  replace AT := hide AT
  replace MO := hide MO
  have fz := VV.out.fz 14
  have cz := VV.out.cell 14 (by omega)
  go_upto_region 35 with (first | (go_at_call 46; refine Calls.mono AT.out ?_; rintro e w' ⟨rfl, rfl⟩) | (go_at_call 45; refine Calls.mono MO.out ?_; rintro e w' ⟨rfl, rfl⟩))
  clear q6 fz cz AT MO
  obtain ⟨y14, hy14⟩ : ∃ y : Int, y = (1 + y0) := ⟨_, rfl⟩
  rw [← hy14]
  have b14 : 1 ≤ y14 ∧ y14 ≤ 1024 := by omega
  clear hy14 e1 e2
  replace MT := hide (MT.out.setV VV.out hl 14 (.int .i64 y14))
  replace VV := hide (VV.out.set 14 (by omega) y14)
  generalize W.setCell ⟨V, 14, none⟩ (.int .i64 y14) = W at *
  have q6 := MT.out.md.c6
  have AT := at_any N W aM bM oM cM M 12 MT.out.md.pm (by omega)
  have MO := mod_any (atL M 12) 64 (by omega) (by omega) W
  obtain ⟨y0, hy0⟩ : ∃ y0, atL M 12 % 64 = y0 := ⟨_, rfl⟩
  have e1 : 0 ≤ y0 := by rw [← hy0]; exact Int.emod_nonneg _ (by omega)
  have e2 : y0 < 64 := by rw [← hy0]; exact Int.emod_lt_of_pos _ (by omega)
  rw [hy0] at MO
  clear hy0
  generalize atL M 12 = z0 at AT MO
  replace AT := hide AT
  replace MO := hide MO
  have fz := VV.out.fz 15
  have cz := VV.out.cell 15 (by omega)
  go_upto_region 36 with (first | (go_at_call 46; refine Calls.mono AT.out ?_; rintro e w' ⟨rfl, rfl⟩) | (go_at_call 45; refine Calls.mono MO.out ?_; rintro e w' ⟨rfl, rfl⟩))
  clear q6 fz cz AT MO
  obtain ⟨y15, hy15⟩ : ∃ y : Int, y = (1 + y0) := ⟨_, rfl⟩
  rw [← hy15]
  have b15 : 1 ≤ y15 ∧ y15 ≤ 64 := by omega
  clear hy15 e1 e2
  replace MT := hide (MT.out.setV VV.out hl 15 (.int .i64 y15))
  replace VV := hide (VV.out.set 15 (by omega) y15)
  generalize W.setCell ⟨V, 15, none⟩ (.int .i64 y15) = W at *
  have q6 := MT.out.md.c6
  have AT := at_any N W aM bM oM cM M 13 MT.out.md.pm (by omega)
  have MO := mod_any (atL M 13) 65536 (by omega) (by omega) W
  obtain ⟨y0, hy0⟩ : ∃ y0, atL M 13 % 65536 = y0 := ⟨_, rfl⟩
  have e1 : 0 ≤ y0 := by rw [← hy0]; exact Int.emod_nonneg _ (by omega)
  have e2 : y0 < 65536 := by rw [← hy0]; exact Int.emod_lt_of_pos _ (by omega)
  rw [hy0] at MO
  clear hy0
  generalize atL M 13 = z0 at AT MO
  replace AT := hide AT
  replace MO := hide MO
  have fz := VV.out.fz 16
  have cz := VV.out.cell 16 (by omega)
  go_upto_region 37 with (first | (go_at_call 46; refine Calls.mono AT.out ?_; rintro e w' ⟨rfl, rfl⟩) | (go_at_call 45; refine Calls.mono MO.out ?_; rintro e w' ⟨rfl, rfl⟩))
  clear q6 fz cz AT MO
  obtain ⟨y16, hy16⟩ : ∃ y : Int, y = (1 + y0) := ⟨_, rfl⟩
  rw [← hy16]
  have b16 : 1 ≤ y16 ∧ y16 ≤ 65536 := by omega
  clear hy16 e1 e2
  replace MT := hide (MT.out.setV VV.out hl 16 (.int .i64 y16))
  replace VV := hide (VV.out.set 16 (by omega) y16)
  generalize W.setCell ⟨V, 16, none⟩ (.int .i64 y16) = W at *
  have q6 := MT.out.md.c6
  have AT := at_any N W aM bM oM cM M 14 MT.out.md.pm (by omega)
  have MO := mod_any (atL M 14) 1024 (by omega) (by omega) W
  obtain ⟨y0, hy0⟩ : ∃ y0, atL M 14 % 1024 = y0 := ⟨_, rfl⟩
  have e1 : 0 ≤ y0 := by rw [← hy0]; exact Int.emod_nonneg _ (by omega)
  have e2 : y0 < 1024 := by rw [← hy0]; exact Int.emod_lt_of_pos _ (by omega)
  rw [hy0] at MO
  clear hy0
  generalize atL M 14 = z0 at AT MO
  replace AT := hide AT
  replace MO := hide MO
  have fz := VV.out.fz 17
  have cz := VV.out.cell 17 (by omega)
  go_upto_region 38 with (first | (go_at_call 46; refine Calls.mono AT.out ?_; rintro e w' ⟨rfl, rfl⟩) | (go_at_call 45; refine Calls.mono MO.out ?_; rintro e w' ⟨rfl, rfl⟩))
  clear q6 fz cz AT MO
  obtain ⟨y17, hy17⟩ : ∃ y : Int, y = (1 + y0) := ⟨_, rfl⟩
  rw [← hy17]
  have b17 : 1 ≤ y17 ∧ y17 ≤ 1024 := by omega
  clear hy17 e1 e2
  replace MT := hide (MT.out.setV VV.out hl 17 (.int .i64 y17))
  replace VV := hide (VV.out.set 17 (by omega) y17)
  generalize W.setCell ⟨V, 17, none⟩ (.int .i64 y17) = W at *
  have q6 := MT.out.md.c6
  have AT := at_any N W aM bM oM cM M 15 MT.out.md.pm (by omega)
  have MO := mod_any (atL M 15) 64 (by omega) (by omega) W
  obtain ⟨y0, hy0⟩ : ∃ y0, atL M 15 % 64 = y0 := ⟨_, rfl⟩
  have e1 : 0 ≤ y0 := by rw [← hy0]; exact Int.emod_nonneg _ (by omega)
  have e2 : y0 < 64 := by rw [← hy0]; exact Int.emod_lt_of_pos _ (by omega)
  rw [hy0] at MO
  clear hy0
  generalize atL M 15 = z0 at AT MO
  replace AT := hide AT
  replace MO := hide MO
  have fz := VV.out.fz 18
  have cz := VV.out.cell 18 (by omega)
  go_upto_region 39 with (first | (go_at_call 46; refine Calls.mono AT.out ?_; rintro e w' ⟨rfl, rfl⟩) | (go_at_call 45; refine Calls.mono MO.out ?_; rintro e w' ⟨rfl, rfl⟩))
  clear q6 fz cz AT MO
  obtain ⟨y18, hy18⟩ : ∃ y : Int, y = (1 + y0) := ⟨_, rfl⟩
  rw [← hy18]
  have b18 : 1 ≤ y18 ∧ y18 ≤ 64 := by omega
  clear hy18 e1 e2
  replace MT := hide (MT.out.setV VV.out hl 18 (.int .i64 y18))
  replace VV := hide (VV.out.set 18 (by omega) y18)
  generalize W.setCell ⟨V, 18, none⟩ (.int .i64 y18) = W at *
  have q6 := MT.out.md.c6
  have AT := at_any N W aM bM oM cM M 16 MT.out.md.pm (by omega)
  have MO := mod_any (atL M 16) 1024 (by omega) (by omega) W
  obtain ⟨y0, hy0⟩ : ∃ y0, atL M 16 % 1024 = y0 := ⟨_, rfl⟩
  have e1 : 0 ≤ y0 := by rw [← hy0]; exact Int.emod_nonneg _ (by omega)
  have e2 : y0 < 1024 := by rw [← hy0]; exact Int.emod_lt_of_pos _ (by omega)
  rw [hy0] at MO
  clear hy0
  generalize atL M 16 = z0 at AT MO
  replace AT := hide AT
  replace MO := hide MO
  have fz := VV.out.fz 19
  have cz := VV.out.cell 19 (by omega)
  go_upto_region 40 with (first | (go_at_call 46; refine Calls.mono AT.out ?_; rintro e w' ⟨rfl, rfl⟩) | (go_at_call 45; refine Calls.mono MO.out ?_; rintro e w' ⟨rfl, rfl⟩))
  clear q6 fz cz AT MO
  obtain ⟨y19, hy19⟩ : ∃ y : Int, y = (1 + y0) := ⟨_, rfl⟩
  rw [← hy19]
  have b19 : 1 ≤ y19 ∧ y19 ≤ 1024 := by omega
  clear hy19 e1 e2
  replace MT := hide (MT.out.setV VV.out hl 19 (.int .i64 y19))
  replace VV := hide (VV.out.set 19 (by omega) y19)
  generalize W.setCell ⟨V, 19, none⟩ (.int .i64 y19) = W at *
  have q6 := MT.out.md.c6
  have AT := at_any N W aM bM oM cM M 17 MT.out.md.pm (by omega)
  have MO := mod_any (atL M 17) 8 (by omega) (by omega) W
  obtain ⟨y0, hy0⟩ : ∃ y0, atL M 17 % 8 = y0 := ⟨_, rfl⟩
  have e1 : 0 ≤ y0 := by rw [← hy0]; exact Int.emod_nonneg _ (by omega)
  have e2 : y0 < 8 := by rw [← hy0]; exact Int.emod_lt_of_pos _ (by omega)
  rw [hy0] at MO
  clear hy0
  generalize atL M 17 = z0 at AT MO
  replace AT := hide AT
  replace MO := hide MO
  have fz := VV.out.fz 20
  have cz := VV.out.cell 20 (by omega)
  go_upto_region 41 with (first | (go_at_call 46; refine Calls.mono AT.out ?_; rintro e w' ⟨rfl, rfl⟩) | (go_at_call 45; refine Calls.mono MO.out ?_; rintro e w' ⟨rfl, rfl⟩))
  clear q6 fz cz AT MO
  obtain ⟨y20, hy20⟩ : ∃ y : Int, y = y0 := ⟨_, rfl⟩
  rw [← hy20]
  have b20 : 0 ≤ y20 ∧ y20 ≤ 7 := by omega
  clear hy20 e1 e2
  replace MT := hide (MT.out.setV VV.out hl 20 (.int .i64 y20))
  replace VV := hide (VV.out.set 20 (by omega) y20)
  generalize W.setCell ⟨V, 20, none⟩ (.int .i64 y20) = W at *
  obtain ⟨X, hX⟩ : ∃ X : Nat → Int, X = (upd (upd (upd (upd (upd (upd (upd (upd (upd (upd x 11 y11) 12 y12) 13 y13) 14 y14) 15 y15) 16 y16) 17 y17) 18 y18) 19 y19) 20 y20) := ⟨_, rfl⟩
  have HXX := hide hX
  rw [← HXX.out] at VV
  clear hX
  have WA := hide (with_any W ⟨#[97, 45, 115, 116, 111, 114, 101]⟩ X ba nn cp)
  go_wp2_with (refine wpList_loadV rfl (.tmp 13) rfl V X rfl VV.out ?_)
  refine Calls.mono WA.out ?_
  rintro e W5 ⟨rfl, hb5⟩
  have M5 := hide (MT.out.below hb5)
  have R5 := hide M5.out.md.res
  clear hb5 WA MT VV
  go_wp2_with (refine wpList_store_row rfl 26 (.tmp 2) (.tmp 211) rfl (w.heap.size + 1) (clA ⟨#[97, 45, 115, 116, 111, 114, 101]⟩ X (.slice ba nn cp)) rfl rfl 26 _ R5.out infoCl rfl (clA_one _ X rfl) ?_)
  have E6 : ClAt (W5.setRow (w.heap.size + 1) (clA ⟨#[97, 45, 115, 116, 111, 114, 101]⟩ X (.slice ba nn cp))) (w.heap.size + 1) ⟨#[97, 45, 115, 116, 111, 114, 101]⟩ X (.slice ba nn cp) := setRow_heap W5 (w.heap.size + 1) _ _ 26 _ R5.out
  have oth : ∀ i, i ≠ w.heap.size + 1 → (W5.setRow (w.heap.size + 1) (clA ⟨#[97, 45, 115, 116, 111, 114, 101]⟩ X (.slice ba nn cp))).heap[i]? = W5.heap[i]? := fun i hi => setRow_other W5 (w.heap.size + 1) i _ (fun e => hi (by first | exact e | exact e.symm))
  have s0 := M5.out.s0
  have T6 := M5.out.tw
  have T7 : Tw W0.heap.size (W5.setRow (w.heap.size + 1) (clA ⟨#[97, 45, 115, 116, 111, 114, 101]⟩ X (.slice ba nn cp))) ns (.slice ba nn cp) zs := ⟨own_keep T6.row fun g hg => oth g (by have := (own_lt T6.row hg).1; omega), T6.z, fun q hq hq' => own_keep (T6.p q hq hq') fun g hg => oth g (by have := (own_lt (T6.p q hq hq') hg).1; omega)⟩
  rw [s0] at T7
  have B7 : Below w.heap.size w (W5.setRow (w.heap.size + 1) (clA ⟨#[97, 45, 115, 116, 111, 114, 101]⟩ X (.slice ba nn cp))) := below_setRow (M5.out.b0.trans (M5.out.bel.mono M5.out.b0.size)) (by omega) _
  obtain ⟨hx, hb, hm, hnf, hdl, h4, h5, hzs⟩ := HX.out
  have hlow : ∀ i, i < 11 → X i = x i := fun i hi => by
    rw [HXX.out]
    simp only [upd]
    rw [if_neg (by omega), if_neg (by omega), if_neg (by omega), if_neg (by omega), if_neg (by omega), if_neg (by omega), if_neg (by omega), if_neg (by omega), if_neg (by omega), if_neg (by omega)]
  have hsf : sfP X = true := by
    unfold sfP
    rw [Bool.and_eq_true]
    constructor
    · rw [List.all_eq_true]
      intro i hi
      have hi2 := List.mem_range.1 hi
      unfold sfAt
      by_cases hl11 : i < 11
      · have := hx i hl11
        rw [hlow i hl11]
        simp only [decide_eq_true this.1, decide_eq_true this.2, Bool.and_self]
      · have hc : i = 11 ∨ i = 12 ∨ i = 13 ∨ i = 14 ∨ i = 15 ∨ i = 16 ∨ i = 17 ∨ i = 18 ∨ i = 19 ∨ i = 20 := by omega
        rw [HXX.out]
        rcases hc with rfl | rfl | rfl | rfl | rfl | rfl | rfl | rfl | rfl | rfl <;> simp [upd, loS, hiS] <;> omega
    · rw [hlow 4 (by omega), hlow 7 (by omega), hlow 9 (by omega), hlow 10 (by omega)]
      simp [hb, hm]
  have hval : errP ⟨#[97, 45, 115, 116, 111, 114, 101]⟩ X ns = 0 := valid_errP (by rfl) hsf hnf hdl (by rw [hlow 0 (by omega)]; exact h4) (by rw [hlow 0 (by omega), hlow 2 (by omega)]; exact h5)
  exact bodyPost_ret (v := .agg (clA _ X (.slice ba nn cp))) (res_cl Try.results29 _ _ X _ _ (w.heap.size + 1) rfl E6) rfl ⟨_, X, ns, _, zs, rfl, hzs, T7, hval, by decide, B7⟩
end Go.Proofs.Ytpleakkhbfhdkaa
