import Derived.Test.YtpleakkhbfhdkaaGmTail
namespace Go.Proofs.Ytpleakkhbfhdkaa
open Go.RowKit
/-- the settings as they are laid first -/
def x0F (r wd k y3 y4 y5 y6 y8 y9 : Int) : Nat → Int := fun i => [r, wd, k, y3, y4, y5, y6, 0, y8, y9, 0][i]?.getD 0
theorem built_v11 (r wd k y3 y4 y5 y6 y8 y9 : Int) : Try.prog.built 114 [(0, .int .i64 r), (1, .int .i64 wd), (2, .int .i64 k), (3, .int .i64 y3), (4, .int .i64 y4), (5, .int .i64 y5), (6, .int .i64 y6), (7, .int .i64 0), (8, .int .i64 y8), (9, .int .i64 y9), (10, .int .i64 0)] = some (vA (x0F r wd k y3 y4 y5 y6 y8 y9)) := by kernel_rfl
theorem exec_bv {ρ : Operand → Value} {op : Oper} {w : World} {r wd k y3 y4 y5 y6 y8 y9 : Int} (p0 p1 p2 p3 p4 p5 p6 p7 p8 p9 p10 : Operand) (ho : op.op = .build 114 #[(0, p0), (1, p1), (2, p2), (3, p3), (4, p4), (5, p5), (6, p6), (7, p7), (8, p8), (9, p9), (10, p10)]) (h0 : ρ p0 = .int .i64 r) (h1 : ρ p1 = .int .i64 wd) (h2 : ρ p2 = .int .i64 k) (h3 : ρ p3 = .int .i64 y3) (h4 : ρ p4 = .int .i64 y4) (h5 : ρ p5 = .int .i64 y5) (h6 : ρ p6 = .int .i64 y6) (h7 : ρ p7 = .int .i64 0) (h8 : ρ p8 = .int .i64 y8) (h9 : ρ p9 = .int .i64 y9) (h10 : ρ p10 = .int .i64 0) : (execOp ρ op).run Try.prog w = .ok (.value (.agg (vA (x0F r wd k y3 y4 y5 y6 y8 y9)))) w := by
  unfold execOp
  simp only [ho, List.map_toArray, List.map_cons, List.map_nil, h0, h1, h2, h3, h4, h5, h6, h7, h8, h9, h10, Sem.run_bind, Sem.run_pure, Result.andThen_ok, run_build w 114 _ _ (built_v11 r wd k y3 y4 y5 y6 y8 y9)]
noncomputable def tail29 : Code := sq2 (sq2 (sq2 (sq2 (sq2 (sq2 (sq2 (sq2 (sq2 (sq2 (sq2 (sq2 (sq2 (sq2 (Try.f29.body.getD .skip))))))))))))))
noncomputable def tail30 : Code := sq2 (sq2 (sq2 (sq2 (sq2 (sq2 (sq2 (sq2 (sq2 (sq2 (sq2 (sq2 (sq2 (sq2 (sq2 (Try.f29.body.getD .skip)))))))))))))))
theorem upd_lim {x : Nat → Int} {n k : Nat} {y : Int} (hx : ∀ i, i < n → i ≠ k → loS i ≤ x i ∧ x i ≤ hiS i) (hy : loS k ≤ y ∧ y ≤ hiS k) : ∀ i, i < n → loS i ≤ upd x k y i ∧ upd x k y i ≤ hiS i := by
  intro i hi
  by_cases e : i = k
  · subst e
    rw [upd_at]
    exact hy
  · rw [upd_ne _ _ e]
    exact hx i hi e
set_option maxHeartbeats 16000000 in
set_option maxRecDepth 100000 in
set_option linter.unusedSimpArgs false in
set_option linter.unusedVariables false in
theorem made30 (N : Nat) (w W0 : World) (a b c d : Int) (H Z M : List Int) (aH : Option Addr) (bH oH cH : Nat) (aZ : Option Addr) (bZ oZ cZ : Nat) (aM : Option Addr) (bM oM cM : Nat) (ns : List ND) (ba : Option Addr) (nn cp : Nat) (zs : List (Int × Value)) (W : World) (V : Nat) (x : Nat → Int) (u3 u4 u6 u7 u8 u9 u10 u11 u12 u14 u15 u16 u17 u18 u19 u20 u21 u22 u23 u24 u25 u26 u27 u28 u29 u30 u31 u32 u33 u34 u35 u36 u37 u38 u39 u40 u41 u42 u43 u44 u45 u46 u47 u48 u49 u50 u51 u52 u53 u54 u55 u56 u57 u58 u59 u60 u61 u62 u63 u64 u65 u66 u67 u68 u69 u70 u71 u72 u73 u74 u75 u76 u77 u78 u79 u80 u81 u82 u83 u84 u85 u86 u87 u88 u89 u90 u91 u92 u93 u94 u95 u96 u97 u98 u99 u100 u101 u102 u103 u104 u105 u106 u107 u108 u109 u110 u111 u112 u113 u114 u115 u116 u117 u118 u119 u120 u121 u122 u123 u124 u125 u126 u127 u128 u129 u130 u131 u132 u133 u134 u135 u136 u137 u138 u139 u140 u141 u142 u143 u144 u145 u146 u147 u148 u149 u150 u151 u152 u153 u154 u155 u156 u157 u158 u159 u160 u161 u162 u163 u164 u165 u166 u167 u168 u169 u170 u171 u172 u173 u174 u175 u176 u177 u178 u179 u180 u181 u182 u183 u184 u185 u186 u187 u188 u189 u190 u191 u192 u193 u194 u195 u196 u197 u198 u199 u200 u201 u202 u203 u204 u205 u206 u207 u208 u209 u210 u211 : Value) (h : MdT N w W0 a b c d H Z M aH bH oH cH aZ bZ oZ cZ aM bM oM cM ns ba nn cp zs W) (hV : VAt W V x) (hl : w.heap.size + 2 ≤ V) (hzs : zs.length = ns.length)
    (hx : ∀ i, i < 11 → i ≠ 10 → loS i ≤ x i ∧ x i ≤ hiS i) (hb : x 4 ≤ x 7) (hnf : nfP ns = true) (hdl : Dealt ns) (h4 : x 0 ≤ (kpN ns : Int)) (h5 : (ptN ns : Int) * x 0 * x 2 ≤ 512) :
    Code.wp Try.prog tail30 (bodyPost Try.prog Try.f29 fun e w' => ∃ st x ns vl zs, e = .returned (.agg (clA st x vl)) ∧ zs.length = ns.length ∧ Tw (w.heap.size + 2) w' ns vl zs ∧ errP st x ns = 0 ∧ st.size ≤ 40 ∧ Below w.heap.size w w') { tmps := #[.agg #[.int .i64 a, .int .i64 b, .int .i64 c, .int .i64 d, .slice aH H.length cH, .slice aZ Z.length cZ, .slice aM M.length cM], .pointer (some ⟨w.heap.size, 0, none⟩), .pointer (some ⟨w.heap.size + 1, 0, none⟩), u3, u4, .slice ba nn cp, u6, u7, u8, u9, u10, u11, u12, .pointer (some ⟨V, 0, none⟩), u14, u15, u16, u17, u18, u19, u20, u21, u22, u23, u24, u25, u26, u27, u28, u29, u30, u31, u32, u33, u34, u35, u36, u37, u38, u39, u40, u41, u42, u43, u44, u45, u46, u47, u48, u49, u50, u51, u52, u53, u54, u55, u56, u57, u58, u59, u60, u61, u62, u63, u64, u65, u66, u67, u68, u69, u70, u71, u72, u73, u74, u75, u76, u77, u78, u79, u80, u81, u82, u83, u84, u85, u86, u87, u88, u89, u90, u91, u92, u93, u94, u95, u96, u97, u98, u99, u100, u101, u102, u103, u104, u105, u106, u107, u108, u109, u110, u111, u112, u113, u114, u115, u116, u117, u118, u119, u120, u121, u122, u123, u124, u125, u126, u127, u128, u129, u130, u131, u132, u133, u134, u135, u136, u137, u138, u139, u140, u141, u142, u143, u144, u145, u146, u147, u148, u149, u150, u151, u152, u153, u154, u155, u156, u157, u158, u159, u160, u161, u162, u163, u164, u165, u166, u167, u168, u169, u170, u171, u172, u173, u174, u175, u176, u177, u178, u179, u180, u181, u182, u183, u184, u185, u186, u187, u188, u189, u190, u191, u192, u193, u194, u195, u196, u197, u198, u199, u200, u201, u202, u203, u204, u205, u206, u207, u208, u209, u210, u211], defers := [] } W := by
  obtain ⟨v4, hv4⟩ : ∃ v4, v4 = x 9 := ⟨_, rfl⟩
  have b1 : 1 ≤ v4 := by have := (hx 9 (by omega) (by omega)).1; simp [loS] at this; omega
  have b2 : v4 ≤ 1024 := by have := (hx 9 (by omega) (by omega)).2; simp [hiS] at this; omega
  have AT := hide (fun Y (hY : MdT N w W0 a b c d H Z M aH bH oH cH aZ bZ oZ cZ aM bM oM cM ns ba nn cp zs Y) => at_any N Y aM bM oM cM M 7 hY.md.pm (by omega))
  have MO := fun Y => mod_any (atL M 7) (1025 - v4) (by omega) (by omega) Y
  obtain ⟨y0, hy0⟩ : ∃ y0, atL M 7 % (1025 - v4) = y0 := ⟨_, rfl⟩
  have e1 : 0 ≤ y0 := by rw [← hy0]; exact Int.emod_nonneg _ (by omega)
  have e2 : y0 < 1025 - v4 := by rw [← hy0]; exact Int.emod_lt_of_pos _ (by omega)
  simp only [hy0] at MO
  clear hy0
  generalize atL M 7 = z0 at AT MO
  replace MO := hide MO
  have MT := hide h
  have VV := hide hV
  have HV4 := hide hv4
  clear h hV hv4
  have Phzs := hide hzs
  have Phx := hide hx
  have Phnf := hide hnf
  have Phdl := hide hdl
  have Ph4 := hide h4
  have Ph5 := hide h5
  have Phb := hide hb
  clear hzs hx hnf hdl h4 h5
  clear hb
  have SD : Hid (((fun Y => MdT N w W0 a b c d H Z M aH bH oH cH aZ bZ oZ cZ aM bM oM cM ns ba nn cp zs Y ∧ ∃ x' : Nat → Int, VAt Y V x' ∧ x' 9 = v4) : World → Prop) W.drew) := ⟨MT.out.below ((Below.refl _ _).drew), x, VV.out, HV4.out.symm⟩
  simp only [tail30, Try.f29, Option.getD_some, sq2]
  go_upto_region 30 with fail
  refine wp_region_held_drew (S := fun Y => MdT N w W0 a b c d H Z M aH bH oH cH aZ bZ oZ cZ aM bM oM cM ns ba nn cp zs Y ∧ ∃ x' : Nat → Int, VAt Y V x' ∧ x' 9 = v4) (by kernel_rfl) SD.out (fun hHeld => ?_)
  refine wpAnyH_take (i := 0) (v := (.pointer (some ⟨V, 9, none⟩))) rfl (by kernel_rfl) (by kernel_rfl) (by kernel_rfl) (fun _ _ _ h => h) (Or.inl ⟨by rfl, ?_⟩) (by assumption) ?_
  · intro w' hSw
    (try dsimp only at hSw)
    exact exec_ixV (by omega) (.tmp 13) (.const (.int .i64 9)) rfl (by kernel_rfl) (by kernel_rfl)
  (try simp only [Act.put, List.setIfInBounds_toArray, List.set_cons_zero, List.set_cons_succ])
  refine wpAnyH_take (i := 1) (v := (.int .i64 v4)) rfl (by kernel_rfl) (by kernel_rfl) (by kernel_rfl) (fun _ _ _ h => h) (Or.inl ⟨by rfl, ?_⟩) (by assumption) ?_
  · intro w' hSw
    (try dsimp only at hSw)
    (obtain ⟨x1, hx1, hx2⟩ := hSw.2; exact exec_ldi (.tmp 139) rfl (by kernel_rfl) (by rw [hx1.cell 9 (by omega), hx2]))
  (try simp only [Act.put, List.setIfInBounds_toArray, List.set_cons_zero, List.set_cons_succ])
  refine wpAnyH_take (i := 2) (v := (.pointer (some ⟨w.heap.size, 6, none⟩))) rfl (by kernel_rfl) (by kernel_rfl) (by kernel_rfl) (fun _ _ _ h => h) (Or.inl ⟨by rfl, ?_⟩) (by assumption) ?_
  · intro w' hSw
    (try dsimp only at hSw)
    exact exec_faR (Or.inr rfl) (.tmp 1) rfl (by kernel_rfl)
  (try simp only [Act.put, List.setIfInBounds_toArray, List.set_cons_zero, List.set_cons_succ])
  refine wpAnyH_take (i := 3) (v := (.slice aM M.length cM)) rfl (by kernel_rfl) (by kernel_rfl) (by kernel_rfl) (fun _ _ _ h => h) (Or.inl ⟨by rfl, ?_⟩) (by assumption) ?_
  · intro w' hSw
    (try dsimp only at hSw)
    exact exec_lds (.tmp 141) rfl (by kernel_rfl) hSw.1.md.c6
  (try simp only [Act.put, List.setIfInBounds_toArray, List.set_cons_zero, List.set_cons_succ])
  refine wpAnyH_take (i := 5) (v := (.pointer (some ⟨V, 9, none⟩))) rfl (by kernel_rfl) (by kernel_rfl) (by kernel_rfl) (fun _ _ _ h => h) (Or.inl ⟨by rfl, ?_⟩) (by assumption) ?_
  · intro w' hSw
    (try dsimp only at hSw)
    exact exec_ixV (by omega) (.tmp 13) (.const (.int .i64 9)) rfl (by kernel_rfl) (by kernel_rfl)
  (try simp only [Act.put, List.setIfInBounds_toArray, List.set_cons_zero, List.set_cons_succ])
  refine wpAnyH_take (i := 6) (v := (.int .i64 v4)) rfl (by kernel_rfl) (by kernel_rfl) (by kernel_rfl) (fun _ _ _ h => h) (Or.inl ⟨by rfl, ?_⟩) (by assumption) ?_
  · intro w' hSw
    (try dsimp only at hSw)
    (obtain ⟨x1, hx1, hx2⟩ := hSw.2; exact exec_ldi (.tmp 144) rfl (by kernel_rfl) (by rw [hx1.cell 9 (by omega), hx2]))
  (try simp only [Act.put, List.setIfInBounds_toArray, List.set_cons_zero, List.set_cons_succ])
  refine wpAnyH_take (i := 7) (v := (.int .i64 (1025 - v4))) rfl (by kernel_rfl) (by kernel_rfl) (by kernel_rfl) (fun _ _ _ h => h) (Or.inl ⟨by rfl, ?_⟩) (by assumption) ?_
  · intro w' hSw
    (try dsimp only at hSw)
    exact exec_subi (.const (.int .i64 1025)) (.tmp 145) rfl (by kernel_rfl) (by kernel_rfl) (by omega) (by omega)
  (try simp only [Act.put, List.setIfInBounds_toArray, List.set_cons_zero, List.set_cons_succ])
  refine wpAnyH_callTake (i := 4) (v := (.int .i64 z0)) rfl (by kernel_rfl) (by kernel_rfl) (by kernel_rfl) (fun _ _ _ h => h) (by kernel_rfl) 46 #[.slice aM M.length cM, .int .i64 7] (fun w' => by kernel_rfl) (fun w' hSw => AT.out w' hSw.1) (by assumption) ?_
  (try simp only [Act.put, List.getElem_toArray, List.getElem_cons_zero, List.getElem_cons_succ, List.setIfInBounds_toArray, List.set_cons_zero, List.set_cons_succ])
  refine wpAnyH_callTake (i := 8) (v := (.int .i64 y0)) rfl (by kernel_rfl) (by kernel_rfl) (by kernel_rfl) (fun _ _ _ h => h) (by kernel_rfl) 45 #[.int .i64 z0, .int .i64 (1025 - v4)] (fun w' => by kernel_rfl) (fun w' hSw => MO.out w') (by assumption) ?_
  (try simp only [Act.put, List.getElem_toArray, List.getElem_cons_zero, List.getElem_cons_succ, List.setIfInBounds_toArray, List.set_cons_zero, List.set_cons_succ])
  refine wpAnyH_take (i := 9) (v := (.int .i64 (v4 + y0))) rfl (by kernel_rfl) (by kernel_rfl) (by kernel_rfl) (fun _ _ _ h => h) (Or.inl ⟨by rfl, ?_⟩) (by assumption) ?_
  · intro w' hSw
    (try dsimp only at hSw)
    exact exec_addii (.tmp 140) (.tmp 147) rfl (by kernel_rfl) (by kernel_rfl) (by omega) (by omega)
  (try simp only [Act.put, List.setIfInBounds_toArray, List.set_cons_zero, List.set_cons_succ])
  refine wpAnyH_take (i := 10) (v := (.pointer (some ⟨V, 10, none⟩))) rfl (by kernel_rfl) (by kernel_rfl) (by kernel_rfl) (fun _ _ _ h => h) (Or.inl ⟨by rfl, ?_⟩) (by assumption) ?_
  · intro w' hSw
    (try dsimp only at hSw)
    exact exec_ixV (by omega) (.tmp 13) (.const (.int .i64 10)) rfl (by kernel_rfl) (by kernel_rfl)
  (try simp only [Act.put, List.setIfInBounds_toArray, List.set_cons_zero, List.set_cons_succ])
  have fz := VV.out.fz 10
  have cz := VV.out.cell 10 (by omega)
  refine wpAnyH_ready (rs := [11]) (by kernel_rfl) (by simp) ?_
  refine AllReadyH.cons rfl (fun K hK => ?_) AllReadyH.nil
  go_simp
  have M2 := hide ((MT.out.below ((Below.refl _ _).drew)).setV (V := V) (x := x) VV.out hl 10 (.int .i64 (v4 + y0)))
  have V2 := hide (VAt.set (w := W.drew) (V := V) (x := x) VV.out 10 (by omega) (v4 + y0))
  have SE : Hid (((fun Y => MdT N w W0 a b c d H Z M aH bH oH cH aZ bZ oZ cZ aM bM oM cM ns ba nn cp zs Y ∧ ∃ x' : Nat → Int, VAt Y V x' ∧ x' 9 = v4) : World → Prop) (W.drew.setCell ⟨V, 10, none⟩ (.int .i64 (v4 + y0)))) := ⟨M2.out, _, V2.out, by rw [upd_ne _ _ (by omega)]; exact HV4.out.symm⟩
  refine hK.out _ _ (SE.out) (fun hHeld => ?_)
  clear hK
  (try simp only [Act.put, List.setIfInBounds_toArray, List.set_cons_zero, List.set_cons_succ])
  refine wpAnyH_done (by kernel_rfl) ?_ _
  clear hHeld fz cz
  rename_i K hKr
  refine hKr _ _ ?_
  exact made31 N w W0 a b c d H Z M aH bH oH cH aZ bZ oZ cZ aM bM oM cM ns ba nn cp zs _ V (upd x 10 (v4 + y0)) _ _ _ _ _ _ _ _ _ _ _ _ _ _ _ _ _ _ _ _ _ _ _ _ _ _ _ _ _ _ _ _ _ _ _ _ _ _ _ _ _ _ _ _ _ _ _ _ _ _ _ _ _ _ _ _ _ _ _ _ _ _ _ _ _ _ _ _ _ _ _ _ _ _ _ _ _ _ _ _ _ _ _ _ _ _ _ _ _ _ _ _ _ _ _ _ _ _ _ _ _ _ _ _ _ _ _ _ _ _ _ _ _ _ _ _ _ _ _ _ _ _ _ _ _ _ _ _ _ _ _ _ _ _ _ _ _ _ _ _ _ _ _ _ _ _ _ _ _ _ _ _ _ _ _ _ _ _ _ _ _ _ _ _ _ _ _ _ _ _ _ _ _ _ _ _ _ _ _ _ _ _ _ _ _ _ _ _ _ _ _ _ _ _ _ _ _ _ _ _ _ _ _ _ _ _ _ M2.out V2.out hl Phzs.out (upd_lim Phx.out ⟨by simp [loS]; omega, by simp [hiS]; omega⟩) (by rw [upd_ne _ _ (by omega), upd_ne _ _ (by omega)]; exact Phb.out) (by rw [upd_ne _ _ (by omega), upd_at, ← HV4.out]; omega) Phnf.out Phdl.out (by rw [upd_ne _ _ (by omega)]; exact Ph4.out) (by rw [upd_ne _ _ (by omega), upd_ne _ _ (by omega)]; exact Ph5.out)
set_option maxHeartbeats 16000000 in
set_option maxRecDepth 100000 in
set_option linter.unusedSimpArgs false in
set_option linter.unusedVariables false in
theorem made29 (N : Nat) (w W0 : World) (a b c d : Int) (H Z M : List Int) (aH : Option Addr) (bH oH cH : Nat) (aZ : Option Addr) (bZ oZ cZ : Nat) (aM : Option Addr) (bM oM cM : Nat) (ns : List ND) (ba : Option Addr) (nn cp : Nat) (zs : List (Int × Value)) (W : World) (V : Nat) (x : Nat → Int) (u3 u4 u6 u7 u8 u9 u10 u11 u12 u14 u15 u16 u17 u18 u19 u20 u21 u22 u23 u24 u25 u26 u27 u28 u29 u30 u31 u32 u33 u34 u35 u36 u37 u38 u39 u40 u41 u42 u43 u44 u45 u46 u47 u48 u49 u50 u51 u52 u53 u54 u55 u56 u57 u58 u59 u60 u61 u62 u63 u64 u65 u66 u67 u68 u69 u70 u71 u72 u73 u74 u75 u76 u77 u78 u79 u80 u81 u82 u83 u84 u85 u86 u87 u88 u89 u90 u91 u92 u93 u94 u95 u96 u97 u98 u99 u100 u101 u102 u103 u104 u105 u106 u107 u108 u109 u110 u111 u112 u113 u114 u115 u116 u117 u118 u119 u120 u121 u122 u123 u124 u125 u126 u127 u128 u129 u130 u131 u132 u133 u134 u135 u136 u137 u138 u139 u140 u141 u142 u143 u144 u145 u146 u147 u148 u149 u150 u151 u152 u153 u154 u155 u156 u157 u158 u159 u160 u161 u162 u163 u164 u165 u166 u167 u168 u169 u170 u171 u172 u173 u174 u175 u176 u177 u178 u179 u180 u181 u182 u183 u184 u185 u186 u187 u188 u189 u190 u191 u192 u193 u194 u195 u196 u197 u198 u199 u200 u201 u202 u203 u204 u205 u206 u207 u208 u209 u210 u211 : Value) (h : MdT N w W0 a b c d H Z M aH bH oH cH aZ bZ oZ cZ aM bM oM cM ns ba nn cp zs W) (hV : VAt W V x) (hl : w.heap.size + 2 ≤ V) (hzs : zs.length = ns.length)
    (hx : ∀ i, i < 11 → i ≠ 7 → i ≠ 10 → loS i ≤ x i ∧ x i ≤ hiS i) (hnf : nfP ns = true) (hdl : Dealt ns) (h4 : x 0 ≤ (kpN ns : Int)) (h5 : (ptN ns : Int) * x 0 * x 2 ≤ 512) :
    Code.wp Try.prog tail29 (bodyPost Try.prog Try.f29 fun e w' => ∃ st x ns vl zs, e = .returned (.agg (clA st x vl)) ∧ zs.length = ns.length ∧ Tw (w.heap.size + 2) w' ns vl zs ∧ errP st x ns = 0 ∧ st.size ≤ 40 ∧ Below w.heap.size w w') { tmps := #[.agg #[.int .i64 a, .int .i64 b, .int .i64 c, .int .i64 d, .slice aH H.length cH, .slice aZ Z.length cZ, .slice aM M.length cM], .pointer (some ⟨w.heap.size, 0, none⟩), .pointer (some ⟨w.heap.size + 1, 0, none⟩), u3, u4, .slice ba nn cp, u6, u7, u8, u9, u10, u11, u12, .pointer (some ⟨V, 0, none⟩), u14, u15, u16, u17, u18, u19, u20, u21, u22, u23, u24, u25, u26, u27, u28, u29, u30, u31, u32, u33, u34, u35, u36, u37, u38, u39, u40, u41, u42, u43, u44, u45, u46, u47, u48, u49, u50, u51, u52, u53, u54, u55, u56, u57, u58, u59, u60, u61, u62, u63, u64, u65, u66, u67, u68, u69, u70, u71, u72, u73, u74, u75, u76, u77, u78, u79, u80, u81, u82, u83, u84, u85, u86, u87, u88, u89, u90, u91, u92, u93, u94, u95, u96, u97, u98, u99, u100, u101, u102, u103, u104, u105, u106, u107, u108, u109, u110, u111, u112, u113, u114, u115, u116, u117, u118, u119, u120, u121, u122, u123, u124, u125, u126, u127, u128, u129, u130, u131, u132, u133, u134, u135, u136, u137, u138, u139, u140, u141, u142, u143, u144, u145, u146, u147, u148, u149, u150, u151, u152, u153, u154, u155, u156, u157, u158, u159, u160, u161, u162, u163, u164, u165, u166, u167, u168, u169, u170, u171, u172, u173, u174, u175, u176, u177, u178, u179, u180, u181, u182, u183, u184, u185, u186, u187, u188, u189, u190, u191, u192, u193, u194, u195, u196, u197, u198, u199, u200, u201, u202, u203, u204, u205, u206, u207, u208, u209, u210, u211], defers := [] } W := by
  obtain ⟨v4, hv4⟩ : ∃ v4, v4 = x 4 := ⟨_, rfl⟩
  have b1 : 1 ≤ v4 := by have := (hx 4 (by omega) (by omega) (by omega)).1; simp [loS] at this; omega
  have b2 : v4 ≤ 4096 := by have := (hx 4 (by omega) (by omega) (by omega)).2; simp [hiS] at this; omega
  have AT := hide (fun Y (hY : MdT N w W0 a b c d H Z M aH bH oH cH aZ bZ oZ cZ aM bM oM cM ns ba nn cp zs Y) => at_any N Y aM bM oM cM M 4 hY.md.pm (by omega))
  have MO := fun Y => mod_any (atL M 4) (65537 - v4) (by omega) (by omega) Y
  obtain ⟨y0, hy0⟩ : ∃ y0, atL M 4 % (65537 - v4) = y0 := ⟨_, rfl⟩
  have e1 : 0 ≤ y0 := by rw [← hy0]; exact Int.emod_nonneg _ (by omega)
  have e2 : y0 < 65537 - v4 := by rw [← hy0]; exact Int.emod_lt_of_pos _ (by omega)
  simp only [hy0] at MO
  clear hy0
  generalize atL M 4 = z0 at AT MO
  replace MO := hide MO
  have MT := hide h
  have VV := hide hV
  have HV4 := hide hv4
  clear h hV hv4
  have Phzs := hide hzs
  have Phx := hide hx
  have Phnf := hide hnf
  have Phdl := hide hdl
  have Ph4 := hide h4
  have Ph5 := hide h5
  clear hzs hx hnf hdl h4 h5
  have SD : Hid (((fun Y => MdT N w W0 a b c d H Z M aH bH oH cH aZ bZ oZ cZ aM bM oM cM ns ba nn cp zs Y ∧ ∃ x' : Nat → Int, VAt Y V x' ∧ x' 4 = v4) : World → Prop) W.drew) := ⟨MT.out.below ((Below.refl _ _).drew), x, VV.out, HV4.out.symm⟩
  simp only [tail29, Try.f29, Option.getD_some, sq2]
  go_upto_region 29 with fail
  refine wp_region_held_drew (S := fun Y => MdT N w W0 a b c d H Z M aH bH oH cH aZ bZ oZ cZ aM bM oM cM ns ba nn cp zs Y ∧ ∃ x' : Nat → Int, VAt Y V x' ∧ x' 4 = v4) (by kernel_rfl) SD.out (fun hHeld => ?_)
  refine wpAnyH_take (i := 0) (v := (.pointer (some ⟨V, 4, none⟩))) rfl (by kernel_rfl) (by kernel_rfl) (by kernel_rfl) (fun _ _ _ h => h) (Or.inl ⟨by rfl, ?_⟩) (by assumption) ?_
  · intro w' hSw
    (try dsimp only at hSw)
    exact exec_ixV (by omega) (.tmp 13) (.const (.int .i64 4)) rfl (by kernel_rfl) (by kernel_rfl)
  (try simp only [Act.put, List.setIfInBounds_toArray, List.set_cons_zero, List.set_cons_succ])
  refine wpAnyH_take (i := 1) (v := (.int .i64 v4)) rfl (by kernel_rfl) (by kernel_rfl) (by kernel_rfl) (fun _ _ _ h => h) (Or.inl ⟨by rfl, ?_⟩) (by assumption) ?_
  · intro w' hSw
    (try dsimp only at hSw)
    (obtain ⟨x1, hx1, hx2⟩ := hSw.2; exact exec_ldi (.tmp 128) rfl (by kernel_rfl) (by rw [hx1.cell 4 (by omega), hx2]))
  (try simp only [Act.put, List.setIfInBounds_toArray, List.set_cons_zero, List.set_cons_succ])
  refine wpAnyH_take (i := 2) (v := (.pointer (some ⟨w.heap.size, 6, none⟩))) rfl (by kernel_rfl) (by kernel_rfl) (by kernel_rfl) (fun _ _ _ h => h) (Or.inl ⟨by rfl, ?_⟩) (by assumption) ?_
  · intro w' hSw
    (try dsimp only at hSw)
    exact exec_faR (Or.inr rfl) (.tmp 1) rfl (by kernel_rfl)
  (try simp only [Act.put, List.setIfInBounds_toArray, List.set_cons_zero, List.set_cons_succ])
  refine wpAnyH_take (i := 3) (v := (.slice aM M.length cM)) rfl (by kernel_rfl) (by kernel_rfl) (by kernel_rfl) (fun _ _ _ h => h) (Or.inl ⟨by rfl, ?_⟩) (by assumption) ?_
  · intro w' hSw
    (try dsimp only at hSw)
    exact exec_lds (.tmp 130) rfl (by kernel_rfl) hSw.1.md.c6
  (try simp only [Act.put, List.setIfInBounds_toArray, List.set_cons_zero, List.set_cons_succ])
  refine wpAnyH_take (i := 5) (v := (.pointer (some ⟨V, 4, none⟩))) rfl (by kernel_rfl) (by kernel_rfl) (by kernel_rfl) (fun _ _ _ h => h) (Or.inl ⟨by rfl, ?_⟩) (by assumption) ?_
  · intro w' hSw
    (try dsimp only at hSw)
    exact exec_ixV (by omega) (.tmp 13) (.const (.int .i64 4)) rfl (by kernel_rfl) (by kernel_rfl)
  (try simp only [Act.put, List.setIfInBounds_toArray, List.set_cons_zero, List.set_cons_succ])
  refine wpAnyH_take (i := 6) (v := (.int .i64 v4)) rfl (by kernel_rfl) (by kernel_rfl) (by kernel_rfl) (fun _ _ _ h => h) (Or.inl ⟨by rfl, ?_⟩) (by assumption) ?_
  · intro w' hSw
    (try dsimp only at hSw)
    (obtain ⟨x1, hx1, hx2⟩ := hSw.2; exact exec_ldi (.tmp 133) rfl (by kernel_rfl) (by rw [hx1.cell 4 (by omega), hx2]))
  (try simp only [Act.put, List.setIfInBounds_toArray, List.set_cons_zero, List.set_cons_succ])
  refine wpAnyH_take (i := 7) (v := (.int .i64 (65537 - v4))) rfl (by kernel_rfl) (by kernel_rfl) (by kernel_rfl) (fun _ _ _ h => h) (Or.inl ⟨by rfl, ?_⟩) (by assumption) ?_
  · intro w' hSw
    (try dsimp only at hSw)
    exact exec_subi (.const (.int .i64 65537)) (.tmp 134) rfl (by kernel_rfl) (by kernel_rfl) (by omega) (by omega)
  (try simp only [Act.put, List.setIfInBounds_toArray, List.set_cons_zero, List.set_cons_succ])
  refine wpAnyH_callTake (i := 4) (v := (.int .i64 z0)) rfl (by kernel_rfl) (by kernel_rfl) (by kernel_rfl) (fun _ _ _ h => h) (by kernel_rfl) 46 #[.slice aM M.length cM, .int .i64 4] (fun w' => by kernel_rfl) (fun w' hSw => AT.out w' hSw.1) (by assumption) ?_
  (try simp only [Act.put, List.getElem_toArray, List.getElem_cons_zero, List.getElem_cons_succ, List.setIfInBounds_toArray, List.set_cons_zero, List.set_cons_succ])
  refine wpAnyH_callTake (i := 8) (v := (.int .i64 y0)) rfl (by kernel_rfl) (by kernel_rfl) (by kernel_rfl) (fun _ _ _ h => h) (by kernel_rfl) 45 #[.int .i64 z0, .int .i64 (65537 - v4)] (fun w' => by kernel_rfl) (fun w' hSw => MO.out w') (by assumption) ?_
  (try simp only [Act.put, List.getElem_toArray, List.getElem_cons_zero, List.getElem_cons_succ, List.setIfInBounds_toArray, List.set_cons_zero, List.set_cons_succ])
  refine wpAnyH_take (i := 9) (v := (.int .i64 (v4 + y0))) rfl (by kernel_rfl) (by kernel_rfl) (by kernel_rfl) (fun _ _ _ h => h) (Or.inl ⟨by rfl, ?_⟩) (by assumption) ?_
  · intro w' hSw
    (try dsimp only at hSw)
    exact exec_addii (.tmp 129) (.tmp 136) rfl (by kernel_rfl) (by kernel_rfl) (by omega) (by omega)
  (try simp only [Act.put, List.setIfInBounds_toArray, List.set_cons_zero, List.set_cons_succ])
  refine wpAnyH_take (i := 10) (v := (.pointer (some ⟨V, 7, none⟩))) rfl (by kernel_rfl) (by kernel_rfl) (by kernel_rfl) (fun _ _ _ h => h) (Or.inl ⟨by rfl, ?_⟩) (by assumption) ?_
  · intro w' hSw
    (try dsimp only at hSw)
    exact exec_ixV (by omega) (.tmp 13) (.const (.int .i64 7)) rfl (by kernel_rfl) (by kernel_rfl)
  (try simp only [Act.put, List.setIfInBounds_toArray, List.set_cons_zero, List.set_cons_succ])
  have fz := VV.out.fz 7
  have cz := VV.out.cell 7 (by omega)
  refine wpAnyH_ready (rs := [11]) (by kernel_rfl) (by simp) ?_
  refine AllReadyH.cons rfl (fun K hK => ?_) AllReadyH.nil
  go_simp
  have M2 := hide ((MT.out.below ((Below.refl _ _).drew)).setV (V := V) (x := x) VV.out hl 7 (.int .i64 (v4 + y0)))
  have V2 := hide (VAt.set (w := W.drew) (V := V) (x := x) VV.out 7 (by omega) (v4 + y0))
  have SE : Hid (((fun Y => MdT N w W0 a b c d H Z M aH bH oH cH aZ bZ oZ cZ aM bM oM cM ns ba nn cp zs Y ∧ ∃ x' : Nat → Int, VAt Y V x' ∧ x' 4 = v4) : World → Prop) (W.drew.setCell ⟨V, 7, none⟩ (.int .i64 (v4 + y0)))) := ⟨M2.out, _, V2.out, by rw [upd_ne _ _ (by omega)]; exact HV4.out.symm⟩
  refine hK.out _ _ (SE.out) (fun hHeld => ?_)
  clear hK
  (try simp only [Act.put, List.setIfInBounds_toArray, List.set_cons_zero, List.set_cons_succ])
  refine wpAnyH_done (by kernel_rfl) ?_ _
  clear hHeld fz cz
  rename_i K hKr
  refine hKr _ _ ?_
  exact made30 N w W0 a b c d H Z M aH bH oH cH aZ bZ oZ cZ aM bM oM cM ns ba nn cp zs _ V (upd x 7 (v4 + y0)) _ _ _ _ _ _ _ _ _ _ _ _ _ _ _ _ _ _ _ _ _ _ _ _ _ _ _ _ _ _ _ _ _ _ _ _ _ _ _ _ _ _ _ _ _ _ _ _ _ _ _ _ _ _ _ _ _ _ _ _ _ _ _ _ _ _ _ _ _ _ _ _ _ _ _ _ _ _ _ _ _ _ _ _ _ _ _ _ _ _ _ _ _ _ _ _ _ _ _ _ _ _ _ _ _ _ _ _ _ _ _ _ _ _ _ _ _ _ _ _ _ _ _ _ _ _ _ _ _ _ _ _ _ _ _ _ _ _ _ _ _ _ _ _ _ _ _ _ _ _ _ _ _ _ _ _ _ _ _ _ _ _ _ _ _ _ _ _ _ _ _ _ _ _ _ _ _ _ _ _ _ _ _ _ _ _ _ _ _ _ _ _ _ _ _ _ _ _ _ _ _ _ _ _ _ _ _ M2.out V2.out hl Phzs.out (fun i hi h10 => upd_lim (n := 10) (fun i hi h7 => Phx.out i (by omega) h7 (by omega)) ⟨by simp [loS]; omega, by simp [hiS]; omega⟩ i (by omega)) (by rw [upd_ne _ _ (by omega), upd_at, ← HV4.out]; omega) Phnf.out Phdl.out (by rw [upd_ne _ _ (by omega)]; exact Ph4.out) (by rw [upd_ne _ _ (by omega), upd_ne _ _ (by omega)]; exact Ph5.out)
set_option maxRecDepth 100000 in
set_option maxHeartbeats 16000000 in
set_option maxRecDepth 100000 in
set_option linter.unusedSimpArgs false in
set_option linter.unusedVariables false in
theorem made28 (N : Nat) (w W0 : World) (a b c d : Int) (H Z M : List Int) (aH : Option Addr) (bH oH cH : Nat) (aZ : Option Addr) (bZ oZ cZ : Nat) (aM : Option Addr) (bM oM cM : Nat) (ns : List ND) (ba : Option Addr) (nn cp : Nat) (zs : List (Int × Value)) (W : World) (r k : Int) (u3 u4 u6 u7 u8 u9 u10 u13 u14 u15 u16 u17 u18 u19 u20 u21 u22 u23 u24 u25 u26 u27 u28 u29 u30 u31 u32 u33 u34 u35 u36 u37 u38 u39 u40 u41 u42 u43 u44 u45 u46 u47 u48 u49 u50 u51 u52 u53 u54 u55 u56 u57 u58 u59 u60 u61 u62 u63 u64 u65 u66 u67 u68 u69 u70 u71 u72 u73 u74 u75 u76 u77 u78 u79 u80 u81 u82 u83 u84 u85 u86 u87 u88 u89 u90 u91 u92 u93 u94 u95 u96 u97 u98 u99 u100 u101 u102 u103 u104 u105 u106 u107 u108 u109 u110 u111 u112 u113 u114 u115 u116 u117 u118 u119 u120 u121 u122 u123 u124 u125 u126 u127 u128 u129 u130 u131 u132 u133 u134 u135 u136 u137 u138 u139 u140 u141 u142 u143 u144 u145 u146 u147 u148 u149 u150 u151 u152 u153 u154 u155 u156 u157 u158 u159 u160 u161 u162 u163 u164 u165 u166 u167 u168 u169 u170 u171 u172 u173 u174 u175 u176 u177 u178 u179 u180 u181 u182 u183 u184 u185 u186 u187 u188 u189 u190 u191 u192 u193 u194 u195 u196 u197 u198 u199 u200 u201 u202 u203 u204 u205 u206 u207 u208 u209 u210 u211 : Value) (h : MdT N w W0 a b c d H Z M aH bH oH cH aZ bZ oZ cZ aM bM oM cM ns ba nn cp zs W) (hzs : zs.length = ns.length)
    (r1 : 1 ≤ r) (r2 : r ≤ 16) (k1 : 1 ≤ k) (k2 : k ≤ 16) (hnf : nfP ns = true) (hdl : Dealt ns) (h4 : r ≤ (kpN ns : Int)) (h5 : (ptN ns : Int) * r * k ≤ 512) :
    Code.wp Try.prog tail28 (bodyPost Try.prog Try.f29 fun e w' => ∃ st x ns vl zs, e = .returned (.agg (clA st x vl)) ∧ zs.length = ns.length ∧ Tw (w.heap.size + 2) w' ns vl zs ∧ errP st x ns = 0 ∧ st.size ≤ 40 ∧ Below w.heap.size w w') { tmps := #[.agg #[.int .i64 a, .int .i64 b, .int .i64 c, .int .i64 d, .slice aH H.length cH, .slice aZ Z.length cZ, .slice aM M.length cM], .pointer (some ⟨w.heap.size, 0, none⟩), .pointer (some ⟨w.heap.size + 1, 0, none⟩), u3, u4, .slice ba nn cp, u6, u7, u8, u9, u10, .int .i64 r, .int .i64 k, u13, u14, u15, u16, u17, u18, u19, u20, u21, u22, u23, u24, u25, u26, u27, u28, u29, u30, u31, u32, u33, u34, u35, u36, u37, u38, u39, u40, u41, u42, u43, u44, u45, u46, u47, u48, u49, u50, u51, u52, u53, u54, u55, u56, u57, u58, u59, u60, u61, u62, u63, u64, u65, u66, u67, u68, u69, u70, u71, u72, u73, u74, u75, u76, u77, u78, u79, u80, u81, u82, u83, u84, u85, u86, u87, u88, u89, u90, u91, u92, u93, u94, u95, u96, u97, u98, u99, u100, u101, u102, u103, u104, u105, u106, u107, u108, u109, u110, u111, u112, u113, u114, u115, u116, u117, u118, u119, u120, u121, u122, u123, u124, u125, u126, u127, u128, u129, u130, u131, u132, u133, u134, u135, u136, u137, u138, u139, u140, u141, u142, u143, u144, u145, u146, u147, u148, u149, u150, u151, u152, u153, u154, u155, u156, u157, u158, u159, u160, u161, u162, u163, u164, u165, u166, u167, u168, u169, u170, u171, u172, u173, u174, u175, u176, u177, u178, u179, u180, u181, u182, u183, u184, u185, u186, u187, u188, u189, u190, u191, u192, u193, u194, u195, u196, u197, u198, u199, u200, u201, u202, u203, u204, u205, u206, u207, u208, u209, u210, u211], defers := [] } W := by
  have MT := hide h
  clear h
  have O20 := fun Y => mod_any c 16 (by omega) (by omega) Y
  obtain ⟨r20, hr20⟩ : ∃ r20, c % 16 = r20 := ⟨_, rfl⟩
  have f20 : 0 ≤ r20 := by rw [← hr20]; exact Int.emod_nonneg _ (by omega)
  have g20 : r20 < 16 := by rw [← hr20]; exact Int.emod_lt_of_pos _ (by omega)
  simp only [hr20] at O20
  clear hr20
  replace O20 := hide O20
  obtain ⟨wd, hwd⟩ : ∃ y, y = 1 + r20 := ⟨_, rfl⟩
  have bwd : 1 ≤ wd ∧ wd ≤ 16 := by omega
  replace hwd := hide hwd
  have A0 := fun Y (hY : Below W.heap.size W Y) => at_any N Y aM bM oM cM M 0 (MT.out.below hY).md.pm (by omega)
  have O0 := fun Y => mod_any (atL M 0) 8 (by omega) (by omega) Y
  obtain ⟨r0, hr0⟩ : ∃ r0, atL M 0 % 8 = r0 := ⟨_, rfl⟩
  have f0 : 0 ≤ r0 := by rw [← hr0]; exact Int.emod_nonneg _ (by omega)
  have g0 : r0 < 8 := by rw [← hr0]; exact Int.emod_lt_of_pos _ (by omega)
  simp only [hr0] at O0
  clear hr0
  generalize atL M 0 = z0 at A0 O0
  replace A0 := hide A0
  replace O0 := hide O0
  obtain ⟨y3, hy3⟩ : ∃ y, y = 1 + r0 := ⟨_, rfl⟩
  have by3 : 1 ≤ y3 ∧ y3 ≤ 8 := by omega
  replace hy3 := hide hy3
  have A1 := fun Y (hY : Below W.heap.size W Y) => at_any N Y aM bM oM cM M 1 (MT.out.below hY).md.pm (by omega)
  have O1 := fun Y => mod_any (atL M 1) 4096 (by omega) (by omega) Y
  obtain ⟨r1, hr1⟩ : ∃ r1, atL M 1 % 4096 = r1 := ⟨_, rfl⟩
  have f1 : 0 ≤ r1 := by rw [← hr1]; exact Int.emod_nonneg _ (by omega)
  have g1 : r1 < 4096 := by rw [← hr1]; exact Int.emod_lt_of_pos _ (by omega)
  simp only [hr1] at O1
  clear hr1
  generalize atL M 1 = z1 at A1 O1
  replace A1 := hide A1
  replace O1 := hide O1
  obtain ⟨y4, hy4⟩ : ∃ y, y = 1 + r1 := ⟨_, rfl⟩
  have by4 : 1 ≤ y4 ∧ y4 ≤ 4096 := by omega
  replace hy4 := hide hy4
  have A2 := fun Y (hY : Below W.heap.size W Y) => at_any N Y aM bM oM cM M 2 (MT.out.below hY).md.pm (by omega)
  have O2 := fun Y => mod_any (atL M 2) 65536 (by omega) (by omega) Y
  obtain ⟨r2, hr2⟩ : ∃ r2, atL M 2 % 65536 = r2 := ⟨_, rfl⟩
  have f2 : 0 ≤ r2 := by rw [← hr2]; exact Int.emod_nonneg _ (by omega)
  have g2 : r2 < 65536 := by rw [← hr2]; exact Int.emod_lt_of_pos _ (by omega)
  simp only [hr2] at O2
  clear hr2
  generalize atL M 2 = z2 at A2 O2
  replace A2 := hide A2
  replace O2 := hide O2
  obtain ⟨y5, hy5⟩ : ∃ y, y = 1 + r2 := ⟨_, rfl⟩
  have by5 : 1 ≤ y5 ∧ y5 ≤ 65536 := by omega
  replace hy5 := hide hy5
  have A3 := fun Y (hY : Below W.heap.size W Y) => at_any N Y aM bM oM cM M 3 (MT.out.below hY).md.pm (by omega)
  have O3 := fun Y => mod_any (atL M 3) 1024 (by omega) (by omega) Y
  obtain ⟨r3, hr3⟩ : ∃ r3, atL M 3 % 1024 = r3 := ⟨_, rfl⟩
  have f3 : 0 ≤ r3 := by rw [← hr3]; exact Int.emod_nonneg _ (by omega)
  have g3 : r3 < 1024 := by rw [← hr3]; exact Int.emod_lt_of_pos _ (by omega)
  simp only [hr3] at O3
  clear hr3
  generalize atL M 3 = z3 at A3 O3
  replace A3 := hide A3
  replace O3 := hide O3
  obtain ⟨y6, hy6⟩ : ∃ y, y = 1 + r3 := ⟨_, rfl⟩
  have by6 : 1 ≤ y6 ∧ y6 ≤ 1024 := by omega
  replace hy6 := hide hy6
  have A5 := fun Y (hY : Below W.heap.size W Y) => at_any N Y aM bM oM cM M 5 (MT.out.below hY).md.pm (by omega)
  have O5 := fun Y => mod_any (atL M 5) 64 (by omega) (by omega) Y
  obtain ⟨r5, hr5⟩ : ∃ r5, atL M 5 % 64 = r5 := ⟨_, rfl⟩
  have f5 : 0 ≤ r5 := by rw [← hr5]; exact Int.emod_nonneg _ (by omega)
  have g5 : r5 < 64 := by rw [← hr5]; exact Int.emod_lt_of_pos _ (by omega)
  simp only [hr5] at O5
  clear hr5
  generalize atL M 5 = z5 at A5 O5
  replace A5 := hide A5
  replace O5 := hide O5
  obtain ⟨y8, hy8⟩ : ∃ y, y = 1 + r5 := ⟨_, rfl⟩
  have by8 : 1 ≤ y8 ∧ y8 ≤ 64 := by omega
  replace hy8 := hide hy8
  have A6 := fun Y (hY : Below W.heap.size W Y) => at_any N Y aM bM oM cM M 6 (MT.out.below hY).md.pm (by omega)
  have O6 := fun Y => mod_any (atL M 6) 1024 (by omega) (by omega) Y
  obtain ⟨r6, hr6⟩ : ∃ r6, atL M 6 % 1024 = r6 := ⟨_, rfl⟩
  have f6 : 0 ≤ r6 := by rw [← hr6]; exact Int.emod_nonneg _ (by omega)
  have g6 : r6 < 1024 := by rw [← hr6]; exact Int.emod_lt_of_pos _ (by omega)
  simp only [hr6] at O6
  clear hr6
  generalize atL M 6 = z6 at A6 O6
  replace A6 := hide A6
  replace O6 := hide O6
  obtain ⟨y9, hy9⟩ : ∃ y, y = 1 + r6 := ⟨_, rfl⟩
  have by9 : 1 ≤ y9 ∧ y9 ≤ 1024 := by omega
  replace hy9 := hide hy9
  have P4 := hide h4
  have P5 := hide h5
  have Pd := hide hdl
  have Pn := hide hnf
  have Pz := hide hzs
  clear h4 h5 hdl hnf hzs
  simp only [tail28, Try.f29, Option.getD_some, sq2]
  go_upto_region 28 with fail
  refine wp_region_held_drew (S := fun Y => Below W.heap.size W Y) (by kernel_rfl) ((Below.refl _ _).drew) (fun hHeld => ?_)
  refine wpAnyH_take (i := 0) (v := (.int .i64 r)) rfl (by kernel_rfl) (by kernel_rfl) (by kernel_rfl) (fun _ _ _ h => h) (Or.inl ⟨by rfl, ?_⟩) (by assumption) ?_
  · intro w' hSw
    (try dsimp only at hSw)
    exact exec_move (.tmp 11) rfl (by kernel_rfl)
  (try simp only [Act.put, List.setIfInBounds_toArray, List.set_cons_zero, List.set_cons_succ])
  refine wpAnyH_take (i := 1) (v := (.pointer (some ⟨w.heap.size, 2, none⟩))) rfl (by kernel_rfl) (by kernel_rfl) (by kernel_rfl) (fun _ _ _ h => h) (Or.inl ⟨by rfl, ?_⟩) (by assumption) ?_
  · intro w' hSw
    (try dsimp only at hSw)
    exact exec_faR (Or.inl rfl) (.tmp 1) rfl (by kernel_rfl)
  (try simp only [Act.put, List.setIfInBounds_toArray, List.set_cons_zero, List.set_cons_succ])
  refine wpAnyH_take (i := 2) (v := (.int .i64 c)) rfl (by kernel_rfl) (by kernel_rfl) (by kernel_rfl) (fun _ _ _ h => h) (Or.inl ⟨by rfl, ?_⟩) (by assumption) ?_
  · intro w' hSw
    (try dsimp only at hSw)
    exact exec_ldi (.tmp 92) rfl (by kernel_rfl) (MT.out.below hSw).md.c2
  (try simp only [Act.put, List.setIfInBounds_toArray, List.set_cons_zero, List.set_cons_succ])
  refine wpAnyH_take (i := 5) (v := (.int .i64 k)) rfl (by kernel_rfl) (by kernel_rfl) (by kernel_rfl) (fun _ _ _ h => h) (Or.inl ⟨by rfl, ?_⟩) (by assumption) ?_
  · intro w' hSw
    (try dsimp only at hSw)
    exact exec_move (.tmp 12) rfl (by kernel_rfl)
  (try simp only [Act.put, List.setIfInBounds_toArray, List.set_cons_zero, List.set_cons_succ])
  refine wpAnyH_take (i := 6) (v := (.pointer (some ⟨w.heap.size, 6, none⟩))) rfl (by kernel_rfl) (by kernel_rfl) (by kernel_rfl) (fun _ _ _ h => h) (Or.inl ⟨by rfl, ?_⟩) (by assumption) ?_
  · intro w' hSw
    (try dsimp only at hSw)
    exact exec_faR (Or.inr rfl) (.tmp 1) rfl (by kernel_rfl)
  (try simp only [Act.put, List.setIfInBounds_toArray, List.set_cons_zero, List.set_cons_succ])
  refine wpAnyH_take (i := 7) (v := (.slice aM M.length cM)) rfl (by kernel_rfl) (by kernel_rfl) (by kernel_rfl) (fun _ _ _ h => h) (Or.inl ⟨by rfl, ?_⟩) (by assumption) ?_
  · intro w' hSw
    (try dsimp only at hSw)
    exact exec_lds (.tmp 97) rfl (by kernel_rfl) (MT.out.below hSw).md.c6
  (try simp only [Act.put, List.setIfInBounds_toArray, List.set_cons_zero, List.set_cons_succ])
  refine wpAnyH_take (i := 11) (v := (.pointer (some ⟨w.heap.size, 6, none⟩))) rfl (by kernel_rfl) (by kernel_rfl) (by kernel_rfl) (fun _ _ _ h => h) (Or.inl ⟨by rfl, ?_⟩) (by assumption) ?_
  · intro w' hSw
    (try dsimp only at hSw)
    exact exec_faR (Or.inr rfl) (.tmp 1) rfl (by kernel_rfl)
  (try simp only [Act.put, List.setIfInBounds_toArray, List.set_cons_zero, List.set_cons_succ])
  refine wpAnyH_take (i := 12) (v := (.slice aM M.length cM)) rfl (by kernel_rfl) (by kernel_rfl) (by kernel_rfl) (fun _ _ _ h => h) (Or.inl ⟨by rfl, ?_⟩) (by assumption) ?_
  · intro w' hSw
    (try dsimp only at hSw)
    exact exec_lds (.tmp 102) rfl (by kernel_rfl) (MT.out.below hSw).md.c6
  (try simp only [Act.put, List.setIfInBounds_toArray, List.set_cons_zero, List.set_cons_succ])
  refine wpAnyH_take (i := 16) (v := (.pointer (some ⟨w.heap.size, 6, none⟩))) rfl (by kernel_rfl) (by kernel_rfl) (by kernel_rfl) (fun _ _ _ h => h) (Or.inl ⟨by rfl, ?_⟩) (by assumption) ?_
  · intro w' hSw
    (try dsimp only at hSw)
    exact exec_faR (Or.inr rfl) (.tmp 1) rfl (by kernel_rfl)
  (try simp only [Act.put, List.setIfInBounds_toArray, List.set_cons_zero, List.set_cons_succ])
  refine wpAnyH_take (i := 17) (v := (.slice aM M.length cM)) rfl (by kernel_rfl) (by kernel_rfl) (by kernel_rfl) (fun _ _ _ h => h) (Or.inl ⟨by rfl, ?_⟩) (by assumption) ?_
  · intro w' hSw
    (try dsimp only at hSw)
    exact exec_lds (.tmp 107) rfl (by kernel_rfl) (MT.out.below hSw).md.c6
  (try simp only [Act.put, List.setIfInBounds_toArray, List.set_cons_zero, List.set_cons_succ])
  refine wpAnyH_take (i := 21) (v := (.pointer (some ⟨w.heap.size, 6, none⟩))) rfl (by kernel_rfl) (by kernel_rfl) (by kernel_rfl) (fun _ _ _ h => h) (Or.inl ⟨by rfl, ?_⟩) (by assumption) ?_
  · intro w' hSw
    (try dsimp only at hSw)
    exact exec_faR (Or.inr rfl) (.tmp 1) rfl (by kernel_rfl)
  (try simp only [Act.put, List.setIfInBounds_toArray, List.set_cons_zero, List.set_cons_succ])
  refine wpAnyH_take (i := 22) (v := (.slice aM M.length cM)) rfl (by kernel_rfl) (by kernel_rfl) (by kernel_rfl) (fun _ _ _ h => h) (Or.inl ⟨by rfl, ?_⟩) (by assumption) ?_
  · intro w' hSw
    (try dsimp only at hSw)
    exact exec_lds (.tmp 112) rfl (by kernel_rfl) (MT.out.below hSw).md.c6
  (try simp only [Act.put, List.setIfInBounds_toArray, List.set_cons_zero, List.set_cons_succ])
  refine wpAnyH_take (i := 26) (v := (.pointer (some ⟨w.heap.size, 6, none⟩))) rfl (by kernel_rfl) (by kernel_rfl) (by kernel_rfl) (fun _ _ _ h => h) (Or.inl ⟨by rfl, ?_⟩) (by assumption) ?_
  · intro w' hSw
    (try dsimp only at hSw)
    exact exec_faR (Or.inr rfl) (.tmp 1) rfl (by kernel_rfl)
  (try simp only [Act.put, List.setIfInBounds_toArray, List.set_cons_zero, List.set_cons_succ])
  refine wpAnyH_take (i := 27) (v := (.slice aM M.length cM)) rfl (by kernel_rfl) (by kernel_rfl) (by kernel_rfl) (fun _ _ _ h => h) (Or.inl ⟨by rfl, ?_⟩) (by assumption) ?_
  · intro w' hSw
    (try dsimp only at hSw)
    exact exec_lds (.tmp 117) rfl (by kernel_rfl) (MT.out.below hSw).md.c6
  (try simp only [Act.put, List.setIfInBounds_toArray, List.set_cons_zero, List.set_cons_succ])
  refine wpAnyH_take (i := 31) (v := (.pointer (some ⟨w.heap.size, 6, none⟩))) rfl (by kernel_rfl) (by kernel_rfl) (by kernel_rfl) (fun _ _ _ h => h) (Or.inl ⟨by rfl, ?_⟩) (by assumption) ?_
  · intro w' hSw
    (try dsimp only at hSw)
    exact exec_faR (Or.inr rfl) (.tmp 1) rfl (by kernel_rfl)
  (try simp only [Act.put, List.setIfInBounds_toArray, List.set_cons_zero, List.set_cons_succ])
  refine wpAnyH_take (i := 32) (v := (.slice aM M.length cM)) rfl (by kernel_rfl) (by kernel_rfl) (by kernel_rfl) (fun _ _ _ h => h) (Or.inl ⟨by rfl, ?_⟩) (by assumption) ?_
  · intro w' hSw
    (try dsimp only at hSw)
    exact exec_lds (.tmp 122) rfl (by kernel_rfl) (MT.out.below hSw).md.c6
  (try simp only [Act.put, List.setIfInBounds_toArray, List.set_cons_zero, List.set_cons_succ])
  refine wpAnyH_callTake (i := 3) (v := (.int .i64 r20)) rfl (by kernel_rfl) (by kernel_rfl) (by kernel_rfl) (fun _ _ _ h => h) (by kernel_rfl) 45 #[.int .i64 c, .int .i64 16] (fun w' => by kernel_rfl) (fun w' hSw => O20.out w') (by assumption) ?_
  (try simp only [Act.put, List.getElem_toArray, List.getElem_cons_zero, List.getElem_cons_succ, List.setIfInBounds_toArray, List.set_cons_zero, List.set_cons_succ])
  refine wpAnyH_take (i := 4) (v := (.int .i64 wd)) rfl (by kernel_rfl) (by kernel_rfl) (by kernel_rfl) (fun _ _ _ h => h) (Or.inl ⟨by rfl, ?_⟩) (by assumption) ?_
  · intro w' hSw
    (try dsimp only at hSw)
    (rw [hwd.out]; exact exec_addii (.const (.int .i64 1)) (.tmp 94) rfl (by kernel_rfl) (by kernel_rfl) (by omega) (by omega))
  (try simp only [Act.put, List.setIfInBounds_toArray, List.set_cons_zero, List.set_cons_succ])
  refine wpAnyH_callTake (i := 8) (v := (.int .i64 z0)) rfl (by kernel_rfl) (by kernel_rfl) (by kernel_rfl) (fun _ _ _ h => h) (by kernel_rfl) 46 #[.slice aM M.length cM, .int .i64 0] (fun w' => by kernel_rfl) (fun w' hSw => A0.out w' hSw) (by assumption) ?_
  (try simp only [Act.put, List.getElem_toArray, List.getElem_cons_zero, List.getElem_cons_succ, List.setIfInBounds_toArray, List.set_cons_zero, List.set_cons_succ])
  refine wpAnyH_callTake (i := 9) (v := (.int .i64 r0)) rfl (by kernel_rfl) (by kernel_rfl) (by kernel_rfl) (fun _ _ _ h => h) (by kernel_rfl) 45 #[.int .i64 z0, .int .i64 8] (fun w' => by kernel_rfl) (fun w' hSw => O0.out w') (by assumption) ?_
  (try simp only [Act.put, List.getElem_toArray, List.getElem_cons_zero, List.getElem_cons_succ, List.setIfInBounds_toArray, List.set_cons_zero, List.set_cons_succ])
  refine wpAnyH_take (i := 10) (v := (.int .i64 y3)) rfl (by kernel_rfl) (by kernel_rfl) (by kernel_rfl) (fun _ _ _ h => h) (Or.inl ⟨by rfl, ?_⟩) (by assumption) ?_
  · intro w' hSw
    (try dsimp only at hSw)
    (rw [hy3.out]; exact exec_addii (.const (.int .i64 1)) (.tmp 100) rfl (by kernel_rfl) (by kernel_rfl) (by omega) (by omega))
  (try simp only [Act.put, List.setIfInBounds_toArray, List.set_cons_zero, List.set_cons_succ])
  refine wpAnyH_callTake (i := 13) (v := (.int .i64 z1)) rfl (by kernel_rfl) (by kernel_rfl) (by kernel_rfl) (fun _ _ _ h => h) (by kernel_rfl) 46 #[.slice aM M.length cM, .int .i64 1] (fun w' => by kernel_rfl) (fun w' hSw => A1.out w' hSw) (by assumption) ?_
  (try simp only [Act.put, List.getElem_toArray, List.getElem_cons_zero, List.getElem_cons_succ, List.setIfInBounds_toArray, List.set_cons_zero, List.set_cons_succ])
  refine wpAnyH_callTake (i := 14) (v := (.int .i64 r1)) rfl (by kernel_rfl) (by kernel_rfl) (by kernel_rfl) (fun _ _ _ h => h) (by kernel_rfl) 45 #[.int .i64 z1, .int .i64 4096] (fun w' => by kernel_rfl) (fun w' hSw => O1.out w') (by assumption) ?_
  (try simp only [Act.put, List.getElem_toArray, List.getElem_cons_zero, List.getElem_cons_succ, List.setIfInBounds_toArray, List.set_cons_zero, List.set_cons_succ])
  refine wpAnyH_take (i := 15) (v := (.int .i64 y4)) rfl (by kernel_rfl) (by kernel_rfl) (by kernel_rfl) (fun _ _ _ h => h) (Or.inl ⟨by rfl, ?_⟩) (by assumption) ?_
  · intro w' hSw
    (try dsimp only at hSw)
    (rw [hy4.out]; exact exec_addii (.const (.int .i64 1)) (.tmp 105) rfl (by kernel_rfl) (by kernel_rfl) (by omega) (by omega))
  (try simp only [Act.put, List.setIfInBounds_toArray, List.set_cons_zero, List.set_cons_succ])
  refine wpAnyH_callTake (i := 18) (v := (.int .i64 z2)) rfl (by kernel_rfl) (by kernel_rfl) (by kernel_rfl) (fun _ _ _ h => h) (by kernel_rfl) 46 #[.slice aM M.length cM, .int .i64 2] (fun w' => by kernel_rfl) (fun w' hSw => A2.out w' hSw) (by assumption) ?_
  (try simp only [Act.put, List.getElem_toArray, List.getElem_cons_zero, List.getElem_cons_succ, List.setIfInBounds_toArray, List.set_cons_zero, List.set_cons_succ])
  refine wpAnyH_callTake (i := 19) (v := (.int .i64 r2)) rfl (by kernel_rfl) (by kernel_rfl) (by kernel_rfl) (fun _ _ _ h => h) (by kernel_rfl) 45 #[.int .i64 z2, .int .i64 65536] (fun w' => by kernel_rfl) (fun w' hSw => O2.out w') (by assumption) ?_
  (try simp only [Act.put, List.getElem_toArray, List.getElem_cons_zero, List.getElem_cons_succ, List.setIfInBounds_toArray, List.set_cons_zero, List.set_cons_succ])
  refine wpAnyH_take (i := 20) (v := (.int .i64 y5)) rfl (by kernel_rfl) (by kernel_rfl) (by kernel_rfl) (fun _ _ _ h => h) (Or.inl ⟨by rfl, ?_⟩) (by assumption) ?_
  · intro w' hSw
    (try dsimp only at hSw)
    (rw [hy5.out]; exact exec_addii (.const (.int .i64 1)) (.tmp 110) rfl (by kernel_rfl) (by kernel_rfl) (by omega) (by omega))
  (try simp only [Act.put, List.setIfInBounds_toArray, List.set_cons_zero, List.set_cons_succ])
  refine wpAnyH_callTake (i := 23) (v := (.int .i64 z3)) rfl (by kernel_rfl) (by kernel_rfl) (by kernel_rfl) (fun _ _ _ h => h) (by kernel_rfl) 46 #[.slice aM M.length cM, .int .i64 3] (fun w' => by kernel_rfl) (fun w' hSw => A3.out w' hSw) (by assumption) ?_
  (try simp only [Act.put, List.getElem_toArray, List.getElem_cons_zero, List.getElem_cons_succ, List.setIfInBounds_toArray, List.set_cons_zero, List.set_cons_succ])
  refine wpAnyH_callTake (i := 24) (v := (.int .i64 r3)) rfl (by kernel_rfl) (by kernel_rfl) (by kernel_rfl) (fun _ _ _ h => h) (by kernel_rfl) 45 #[.int .i64 z3, .int .i64 1024] (fun w' => by kernel_rfl) (fun w' hSw => O3.out w') (by assumption) ?_
  (try simp only [Act.put, List.getElem_toArray, List.getElem_cons_zero, List.getElem_cons_succ, List.setIfInBounds_toArray, List.set_cons_zero, List.set_cons_succ])
  refine wpAnyH_take (i := 25) (v := (.int .i64 y6)) rfl (by kernel_rfl) (by kernel_rfl) (by kernel_rfl) (fun _ _ _ h => h) (Or.inl ⟨by rfl, ?_⟩) (by assumption) ?_
  · intro w' hSw
    (try dsimp only at hSw)
    (rw [hy6.out]; exact exec_addii (.const (.int .i64 1)) (.tmp 115) rfl (by kernel_rfl) (by kernel_rfl) (by omega) (by omega))
  (try simp only [Act.put, List.setIfInBounds_toArray, List.set_cons_zero, List.set_cons_succ])
  refine wpAnyH_callTake (i := 28) (v := (.int .i64 z5)) rfl (by kernel_rfl) (by kernel_rfl) (by kernel_rfl) (fun _ _ _ h => h) (by kernel_rfl) 46 #[.slice aM M.length cM, .int .i64 5] (fun w' => by kernel_rfl) (fun w' hSw => A5.out w' hSw) (by assumption) ?_
  (try simp only [Act.put, List.getElem_toArray, List.getElem_cons_zero, List.getElem_cons_succ, List.setIfInBounds_toArray, List.set_cons_zero, List.set_cons_succ])
  refine wpAnyH_callTake (i := 29) (v := (.int .i64 r5)) rfl (by kernel_rfl) (by kernel_rfl) (by kernel_rfl) (fun _ _ _ h => h) (by kernel_rfl) 45 #[.int .i64 z5, .int .i64 64] (fun w' => by kernel_rfl) (fun w' hSw => O5.out w') (by assumption) ?_
  (try simp only [Act.put, List.getElem_toArray, List.getElem_cons_zero, List.getElem_cons_succ, List.setIfInBounds_toArray, List.set_cons_zero, List.set_cons_succ])
  refine wpAnyH_take (i := 30) (v := (.int .i64 y8)) rfl (by kernel_rfl) (by kernel_rfl) (by kernel_rfl) (fun _ _ _ h => h) (Or.inl ⟨by rfl, ?_⟩) (by assumption) ?_
  · intro w' hSw
    (try dsimp only at hSw)
    (rw [hy8.out]; exact exec_addii (.const (.int .i64 1)) (.tmp 120) rfl (by kernel_rfl) (by kernel_rfl) (by omega) (by omega))
  (try simp only [Act.put, List.setIfInBounds_toArray, List.set_cons_zero, List.set_cons_succ])
  refine wpAnyH_callTake (i := 33) (v := (.int .i64 z6)) rfl (by kernel_rfl) (by kernel_rfl) (by kernel_rfl) (fun _ _ _ h => h) (by kernel_rfl) 46 #[.slice aM M.length cM, .int .i64 6] (fun w' => by kernel_rfl) (fun w' hSw => A6.out w' hSw) (by assumption) ?_
  (try simp only [Act.put, List.getElem_toArray, List.getElem_cons_zero, List.getElem_cons_succ, List.setIfInBounds_toArray, List.set_cons_zero, List.set_cons_succ])
  refine wpAnyH_callTake (i := 34) (v := (.int .i64 r6)) rfl (by kernel_rfl) (by kernel_rfl) (by kernel_rfl) (fun _ _ _ h => h) (by kernel_rfl) 45 #[.int .i64 z6, .int .i64 1024] (fun w' => by kernel_rfl) (fun w' hSw => O6.out w') (by assumption) ?_
  (try simp only [Act.put, List.getElem_toArray, List.getElem_cons_zero, List.getElem_cons_succ, List.setIfInBounds_toArray, List.set_cons_zero, List.set_cons_succ])
  refine wpAnyH_take (i := 35) (v := (.int .i64 y9)) rfl (by kernel_rfl) (by kernel_rfl) (by kernel_rfl) (fun _ _ _ h => h) (Or.inl ⟨by rfl, ?_⟩) (by assumption) ?_
  · intro w' hSw
    (try dsimp only at hSw)
    (rw [hy9.out]; exact exec_addii (.const (.int .i64 1)) (.tmp 125) rfl (by kernel_rfl) (by kernel_rfl) (by omega) (by omega))
  (try simp only [Act.put, List.setIfInBounds_toArray, List.set_cons_zero, List.set_cons_succ])
  refine wpAnyH_take (i := 36) (v := (.agg (vA (x0F r wd k y3 y4 y5 y6 y8 y9)))) rfl (by kernel_rfl) (by kernel_rfl) (by kernel_rfl) (fun _ _ _ h => h) (Or.inl ⟨by rfl, ?_⟩) (by assumption) ?_
  · intro w' hSw
    (try dsimp only at hSw)
    exact exec_bv (.tmp 91) (.tmp 95) (.tmp 96) (.tmp 101) (.tmp 106) (.tmp 111) (.tmp 116) (.const (.int .i64 0)) (.tmp 121) (.tmp 126) (.const (.int .i64 0)) rfl (by kernel_rfl) (by kernel_rfl) (by kernel_rfl) (by kernel_rfl) (by kernel_rfl) (by kernel_rfl) (by kernel_rfl) (by kernel_rfl) (by kernel_rfl) (by kernel_rfl) (by kernel_rfl)
  (try simp only [Act.put, List.setIfInBounds_toArray, List.set_cons_zero, List.set_cons_succ])
  refine wpAnyH_ready (rs := [37]) (by kernel_rfl) (by simp) ?_
  refine AllReadyH.cons rfl (fun K hK => ?_) AllReadyH.nil
  go_simp
  have HZ : Hid (((W.alloc (.cells (vA fun _ => 0) 114)).drew).heap[W.heap.size]? = some (.cells (vA fun _ => 0) 114)) := heap_last _ _
  have BZ : Hid (Below W.heap.size W ((W.alloc (.cells (vA fun _ => 0) 114)).drew)) := ((Below.refl _ _).alloc (Nat.le_refl _) _).drew
  rw [show #[Value.int IntKind.i64 0, .int .i64 0, .int .i64 0, .int .i64 0, .int .i64 0, .int .i64 0, .int .i64 0, .int .i64 0, .int .i64 0, .int .i64 0, .int .i64 0, .int .i64 0, .int .i64 0, .int .i64 0, .int .i64 0, .int .i64 0, .int .i64 0, .int .i64 0, .int .i64 0, .int .i64 0, .int .i64 0] = vA (fun _ => 0) from rfl]
  refine hK.out _ _ (BZ.out) (fun hHeld => ?_)
  clear hK
  (try simp only [Act.put, List.setIfInBounds_toArray, List.set_cons_zero, List.set_cons_succ])
  refine wpAnyH_ready (rs := [38]) (by kernel_rfl) (by simp) ?_
  refine AllReadyH.cons rfl (fun K hK => ?_) AllReadyH.nil
  rw [if_pos (by kernel_rfl)]
  refine wp_store_row 114 (.tmp 13) (.tmp 127) rfl W.heap.size (vA (x0F r wd k y3 y4 y5 y6 y8 y9)) (by kernel_rfl) (by kernel_rfl) 114 (vA fun _ => 0) HZ.out infoV rfl (vA_one _) ?_
  have V2 : Hid (VAt (((W.alloc (.cells (vA fun _ => 0) 114)).drew).setRow W.heap.size (vA (x0F r wd k y3 y4 y5 y6 y8 y9))) W.heap.size (x0F r wd k y3 y4 y5 y6 y8 y9)) := setRow_heap _ _ _ _ _ _ HZ.out
  have B2 : Hid (Below W.heap.size W (((W.alloc (.cells (vA fun _ => 0) 114)).drew).setRow W.heap.size (vA (x0F r wd k y3 y4 y5 y6 y8 y9)))) := below_setRow BZ.out (Nat.le_refl _) _
  have M2 := hide (MT.out.below B2.out)
  refine hK.out _ _ (B2.out) (fun hHeld => ?_)
  clear hK
  (try simp only [Act.put, List.setIfInBounds_toArray, List.set_cons_zero, List.set_cons_succ])
  refine wpAnyH_done (by kernel_rfl) ?_ _
  clear hHeld
  rename_i K0 hKr hh K1
  refine hKr _ _ ?_
  have hl := MT.out.md.lt
  exact made29 N w W0 a b c d H Z M aH bH oH cH aZ bZ oZ cZ aM bM oM cM ns ba nn cp zs _ W.heap.size (x0F r wd k y3 y4 y5 y6 y8 y9) _ _ _ _ _ _ _ _ _ _ _ _ _ _ _ _ _ _ _ _ _ _ _ _ _ _ _ _ _ _ _ _ _ _ _ _ _ _ _ _ _ _ _ _ _ _ _ _ _ _ _ _ _ _ _ _ _ _ _ _ _ _ _ _ _ _ _ _ _ _ _ _ _ _ _ _ _ _ _ _ _ _ _ _ _ _ _ _ _ _ _ _ _ _ _ _ _ _ _ _ _ _ _ _ _ _ _ _ _ _ _ _ _ _ _ _ _ _ _ _ _ _ _ _ _ _ _ _ _ _ _ _ _ _ _ _ _ _ _ _ _ _ _ _ _ _ _ _ _ _ _ _ _ _ _ _ _ _ _ _ _ _ _ _ _ _ _ _ _ _ _ _ _ _ _ _ _ _ _ _ _ _ _ _ _ _ _ _ _ _ _ _ _ _ _ _ _ _ _ _ _ _ _ _ _ _ _ M2.out V2.out hl Pz.out (fun i hi h7 h10 => by
    have hc : i = 0 ∨ i = 1 ∨ i = 2 ∨ i = 3 ∨ i = 4 ∨ i = 5 ∨ i = 6 ∨ i = 8 ∨ i = 9 := by omega
    rcases hc with rfl | rfl | rfl | rfl | rfl | rfl | rfl | rfl | rfl <;> simp [x0F, loS, hiS] <;> omega) Pn.out Pd.out P4.out P5.out
end Go.Proofs.Ytpleakkhbfhdkaa
