import Derived.Test.YtpleakkhbfhdkaaGCbRep
namespace Go.Proofs.Ytpleakkhbfhdkaa.Cn
open Go.RowKit
theorem bl_infos : (Try.prog.info? 4).map (fun i => (i.zero, i.size, i.bytes)) = some (some (.bool false), 1, 1) := by kernel_rfl
/-- append(list, b) -/
theorem wpList_apB {w : World} {ops : Array Oper} {rest : List Oper} {o : Oper} {a : Act} {Q : Exit → Act → World → Prop} (hgd : o.guard = none) (x y : Operand) (ho : o.op = .call { callee := .builtin .append, args := #[x, y], argTypes := #[104, 104] }) (base : Nat) (v : Value) (L : List Bool) (hx : a.eval x = v) (hv : w.ownsRow base 4 1 v L.length (bls L)) (g : Nat) (m : Bool) (hy : a.eval y = .slice (some ⟨g, 0, none⟩) 1 1) (hg : w.heap[g]? = some (.cells #[.bool m] 4)) (hl : L.length ≤ 1000000000000) (hb : base ≤ w.heap.size)
    (h : ∀ v' w', w'.ownsRow base 4 1 v' (L.length + 1) (bls (L ++ [m])) → w.grownBy w' v.ownBlock → wpList Try.prog ops Q rest (a.put o.dst v') w') : wpList Try.prog ops Q (o :: rest) a w := by
  obtain ⟨i0, hi, hz0, hz1, hz2⟩ := mg_parts bl_infos
  refine wpList_append_own_at _ hgd _ _ 104 ho base 4 i0 _ 1 1 Try.underlying104 hi hz0 hz1 hz2 rfl (by decide) _ _ _ hx hv ⟨g, 0, none⟩ 1 1 (bls [m]) hy rfl ?_ (bls_one _) (by unfold maxLen; omega) (by omega) hb ?_
  · intro j u hj
    rw [Addr.add_mid, Nat.zero_add, cell_row hg]
    simpa [bls] using hj
  · intro v' w' h1 h2 _ _
    rw [← bls_append] at h1
    exact h v' w' h1 h2
theorem own_bl {w : World} {base : Nat} {v : Value} {L : List Bool} (h : w.ownsRow base 4 1 v L.length (bls L)) (i : Nat) (hi : i < L.length) : ∃ g c, v = .slice (some ⟨g, 0, none⟩) L.length c ∧ base ≤ g ∧ g < w.heap.size ∧ w.cell? ⟨g, i, none⟩ = some (.bool L[i]) := by
  rcases h.2 with ⟨hv, hz⟩ | ⟨g, cap', cur, hv, hb, hg, _⟩
  · omega
  · subst hv
    refine ⟨g, cap', rfl, hb, blk_lt hg, ?_⟩
    rw [h.cellAt i (by omega), bls_at, List.getElem?_eq_getElem hi]
    rfl
def fls (i : Nat) : List Bool := List.replicate i false
theorem fls_len (i : Nat) : (fls i).length = i := by simp [fls]
theorem fls_succ (i : Nat) : fls i ++ [false] = fls (i + 1) := by
  unfold fls
  rw [List.replicate_succ']
set_option maxHeartbeats 4000000 in
set_option maxRecDepth 100000 in
set_option linter.unusedSimpArgs false in
set_option linter.unusedVariables false in
theorem nones_any (w : World) (n : Nat) (hn : n ≤ 16) :
    Calls Try.prog 42 #[.int .i64 (n : Int)] w fun e w' => ∃ v, e = .returned v ∧ w'.ownsRow w.heap.size 4 1 v (fls n).length (bls (fls n)) ∧ Below w.heap.size w w' := by
  go_enter Try.func42, Try.ntmps42
  go_wp2_with fail
  go_loopw [3, 4] (fun vl vi wr => ∃ (i : Nat), i ≤ n ∧ vi = .int .i64 (i : Int) ∧ Hid (wr.ownsRow w.heap.size 4 1 vl (fls i).length (bls (fls i))) ∧ Hid (Below w.heap.size w wr)) (fun _ vi _ => n - (intOf vi).toNat)
  case atStart => exact ⟨0, Nat.zero_le _, rfl, World.ownsRow_nil _ _ _ _, Below.refl _ _⟩
  case round =>
    obtain ⟨i, hi, rfl, HO, HB⟩ := hrel
    by_cases hin : i < n
    case pos =>
      have hii : (i : Int) < (n : Int) := by omega
      have O1 : Hid ((wr.alloc (.cells #[.bool false] 4)).ownsRow w.heap.size 4 1 u3 (fls i).length (bls (fls i))) := own_below HO.out ((Below.refl _ wr).alloc (Nat.le_refl _) _)
      have G1 : Hid ((wr.alloc (.cells #[.bool false] 4)).heap[wr.heap.size]? = some (.cells #[.bool false] 4)) := heap_last _ _
      have hs : w.heap.size ≤ wr.heap.size := HB.out.size
      have hl : Hid ((fls i).length ≤ 1000000000000) := by rw [fls_len]; unfold Hid; omega
      go_wp2_with (at_builtin; refine wpList_apB rfl (.tmp 10) (.tmp 11) rfl w.heap.size _ (fls i) rfl O1.out wr.heap.size false rfl G1.out hl.out (by simp; omega) ?_; intro v' w' o2 g2)
      refine ⟨⟨i + 1, by omega, rfl, ?_, ?_⟩, by simp [intOf]; omega⟩
      · rw [fls_succ] at o2
        rw [fls_len] at o2 ⊢
        exact o2
      · have k1 : Kp w wr non := Kp.of_below HB.out non
        refine ((k1.alloc _).trans (Kp.of_grown g2) (fun k hk => ?_)).below
        have := own_ge O1.out hk.symm
        exact Or.inr this
    case neg =>
      obtain rfl : i = n := by omega
      go_wp2_with fail
      go_ret
      exact ⟨_, rfl, HO.out, HB.out⟩
def allT (L : List Bool) : Bool := L.all id
theorem allT_no {L : List Bool} {i : Nat} (hi : i < L.length) (h : L[i] = false) : allT L = false := by
  unfold allT
  rw [List.all_eq_false]
  exact ⟨L[i], List.getElem_mem hi, by simp [h]⟩
theorem allT_yes {L : List Bool} (h : ∀ i (hi : i < L.length), L[i] = true) : allT L = true := by
  unfold allT
  rw [List.all_eq_true]
  intro x hx
  obtain ⟨i, hi, rfl⟩ := List.mem_iff_getElem.1 hx
  exact h i hi
set_option maxHeartbeats 4000000 in
set_option maxRecDepth 100000 in
set_option linter.unusedSimpArgs false in
set_option linter.unusedVariables false in
theorem every_any {w : World} {base : Nat} {v : Value} {L : List Bool} (h : w.ownsRow base 4 1 v L.length (bls L)) (hn : L.length ≤ 1000) :
    Calls Try.prog 62 #[v] w fun e w' => e = .returned (.bool (allT L)) ∧ w = w' := by
  obtain ⟨la, lc, rfl⟩ := own_sl h
  have H := hide h
  obtain ⟨r, hr⟩ : ∃ r, r = allT L := ⟨_, rfl⟩
  have HR := hide hr
  obtain ⟨n, hln⟩ : ∃ n, n = L.length := ⟨_, rfl⟩
  have HN := hide hln
  rw [← hr]
  rw [← hln] at hn ⊢
  clear h hr hln
  go_enter Try.func62, Try.ntmps62
  go_wp2_with fail
  go_loopw [3] (fun vi wr => ∃ (i : Nat), i ≤ n ∧ vi = .int .i64 (i : Int) ∧ Hid (∀ j (hj : j < L.length), j < i → L[j] = true) ∧ w = wr) (fun vi _ => n - (intOf vi).toNat)
  case atStart => exact ⟨0, Nat.zero_le _, rfl, hide (fun j _ f => by omega), rfl⟩
  case round =>
    obtain ⟨i, hi, rfl, HA, rfl⟩ := hrel
    by_cases hin : i < n
    case pos =>
      have hii : (i : Int) < (n : Int) := by omega
      have hlt : i < L.length := by rw [← HN.out]; exact hin
      obtain ⟨g, c9, hv9, _, _, cl⟩ := own_bl H.out i hlt
      have e8 : la = some ⟨g, 0, none⟩ := by simp only [Value.slice.injEq] at hv9; exact hv9.1
      clear hv9
      subst e8
      obtain ⟨b, hb⟩ : ∃ b, b = L[i] := ⟨_, rfl⟩
      rw [← hb] at cl
      have HBb := hide hb
      clear hb
      cases b with
      | true =>
        have A1 : Hid (∀ j (hj : j < L.length), j < i + 1 → L[j] = true) := fun j hj hji => by
          rcases Nat.lt_or_ge j i with a | a
          · exact HA.out j hj a
          · obtain rfl : j = i := by omega
            exact HBb.out.symm
        clear HBb hlt HA
        go_wp2_with fail
        exact ⟨⟨i + 1, by omega, rfl, A1.out, trivial⟩, by simp [intOf]; omega⟩
      | false =>
        have R0 : Hid (r = false) := by rw [HR.out]; exact allT_no hlt HBb.out.symm
        clear HBb hlt HA
        go_wp2_with fail
        go_ret
        rw [R0.out]
        exact ⟨rfl, rfl⟩
    case neg =>
      obtain rfl : i = n := by omega
      have R0 : Hid (r = true) := by rw [HR.out]; exact allT_yes (fun j hj => HA.out j hj (by have := HN.out; omega))
      clear HA
      go_wp2_with fail
      go_ret
      rw [R0.out]
      exact ⟨rfl, rfl⟩
end Go.Proofs.Ytpleakkhbfhdkaa.Cn
namespace Go.Proofs.Ytpleakkhbfhdkaa.Cn
open Go.RowKit
/-- a controller that may be: what its calls keep -/
structure Ct.fine (c : Ct) : Prop where
  n1 : 1 ≤ c.ru.n
  n16 : c.ru.n ≤ 16
  rs1 : 1 ≤ c.ru.rs
  rs2 : c.ru.rs ≤ 1000000
  lm1 : 1 ≤ c.ru.lm
  lm2 : c.ru.lm ≤ 1000000
  pt1 : 1 ≤ c.ru.pt
  pt2 : c.ru.pt ≤ 1000000000
  nu0 : 0 ≤ c.num
  nu1 : c.num ≤ 9007199254740992
  rd : ∀ p r, c.ph = some (p, r) → r.al.length = c.ru.n ∧ 0 ≤ r.tk ∧ r.sd = 1 + r.tk / c.ru.rs ∧ r.num = c.num ∧ (p = .fetch → r.tk < c.ru.pt) ∧ (p ≠ .fetch → r.tk < c.ru.rs * c.ru.lm)
  la : c.last.hs.length ≤ 16 ∧ c.last.ms.length ≤ 16
theorem mul_le {a b : Int} (a1 : a ≤ 1000000) (b0 : 0 ≤ b) (b1 : b ≤ 1000000) : a * b ≤ 1000000000000 := by
  have h1 : a * b ≤ 1000000 * b := Int.mul_le_mul_of_nonneg_right a1 b0
  have h2 : (1000000 : Int) * b ≤ 1000000 * 1000000 := Int.mul_le_mul_of_nonneg_left b1 (by omega)
  omega
theorem Ct.fine.tk {c : Ct} (h : c.fine) {p : Ph} {r : Rd} (hp : c.ph = some (p, r)) : 0 ≤ r.tk ∧ r.tk ≤ 1000000000000 := by
  obtain ⟨_, h0, _, _, h3, h4⟩ := h.rd p r hp
  refine ⟨h0, ?_⟩
  have := mul_le h.rs2 (by have := h.lm1; omega) h.lm2
  have := h.pt2
  by_cases e : p = .fetch
  · have := h3 e; omega
  · have := h4 e; omega
theorem Ct.fine.sd {c : Ct} (h : c.fine) {p : Ph} {r : Rd} (hp : c.ph = some (p, r)) : 1 ≤ r.sd ∧ r.sd ≤ 1000000000001 := by
  obtain ⟨t0, t1⟩ := h.tk hp
  obtain ⟨_, _, h2, _⟩ := h.rd p r hp
  have g1 : 0 ≤ r.tk / c.ru.rs := Int.ediv_nonneg t0 (by have := h.rs1; omega)
  have g2 : r.tk / c.ru.rs ≤ r.tk := Int.ediv_le_self _ t0
  omega
theorem Ct.fine.ok {c : Ct} (h : c.fine) : c.ok :=
  ⟨h.n1, h.n16, h.rs1, by have := h.rs2; omega, fun p r hp => by have := h.tk hp; have := h.sd hp; omega⟩
theorem miss_len (al : List (Bool × Int)) : (miss al).length ≤ al.length := missL_len al al.length
theorem fine_ent {c : Ct} (h : c.fine) (p : Ph) (k v : Int) : (entP c p (rd0 c.ru c.num k v)).fine := by
  refine ⟨h.n1, h.n16, h.rs1, h.rs2, h.lm1, h.lm2, h.pt1, h.pt2, h.nu0, h.nu1, fun p' r' e => ?_, h.la⟩
  simp only [entP, Option.some.injEq, Prod.mk.injEq] at e
  obtain ⟨rfl, rfl⟩ := e
  refine ⟨by simp [rd0, entP], by simp [rd0], by simp [rd0], rfl, fun _ => ?_, fun _ => ?_⟩
  · show (0 : Int) < c.ru.pt
    have := h.pt1; omega
  · show (0 : Int) < c.ru.rs * c.ru.lm
    exact Int.mul_pos (by have := h.rs1; omega) (by have := h.lm1; omega)
theorem fine_end {c : Ct} (h : c.fine) {r : Rd} (hl : r.al.length = c.ru.n) (o : Int) : (endC c r o).fine := by
  refine ⟨h.n1, h.n16, h.rs1, h.rs2, h.lm1, h.lm2, h.pt1, h.pt2, h.nu0, h.nu1, fun p' r' e => by simp [endC] at e, ?_⟩
  have := miss_len r.al
  have := h.n16
  simp only [endC, repO, List.length_map]
  omega
theorem fine_rd {c : Ct} (h : c.fine) {p : Ph} {r' : Rd} (hr : r'.al.length = c.ru.n ∧ 0 ≤ r'.tk ∧ r'.sd = 1 + r'.tk / c.ru.rs ∧ r'.num = c.num ∧ (p = .fetch → r'.tk < c.ru.pt) ∧ (p ≠ .fetch → r'.tk < c.ru.rs * c.ru.lm)) : ({ c with ph := some (p, r') } : Ct).fine := by
  refine ⟨h.n1, h.n16, h.rs1, h.rs2, h.lm1, h.lm2, h.pt1, h.pt2, h.nu0, h.nu1, fun p' r'' e => ?_, h.la⟩
  simp only [Option.some.injEq, Prod.mk.injEq] at e
  obtain ⟨rfl, rfl⟩ := e
  exact hr
/-- the calls, of any controller -/
def takeC (c : Ct) (m : Mg) : Ct := match c.ph with | none => c | some x => takC c x.1 x.2 m
def takeL (c : Ct) (m : Mg) : List Mg := match c.ph with | none => [] | some x => takL c x.1 x.2 m
def tickC (c : Ct) : Ct := match c.ph with | none => c | some x => folC { c with ph := some (x.1, tkR x.2) } x.1 (tkR x.2) (tickV x.1 c.ru x.2)
def tickL (c : Ct) : List Mg := match c.ph with | none => [] | some x => folL { c with ph := some (x.1, tkR x.2) } x.1 (tkR x.2) (tickV x.1 c.ru x.2)
theorem fine_fol {c : Ct} (h : c.fine) {p : Ph} {r : Rd} (hp : c.ph = some (p, r)) {v : Int} (hv : v = 0 ∨ v = 2 ∨ v = 3 ∨ v = 4 ∨ v = 5 ∨ v = 6) : (folC c p r v).fine := by
  obtain ⟨hl, _, _, hn, _⟩ := h.rd p r hp
  rcases hv with rfl | rfl | rfl | rfl | rfl | rfl <;> simp only [folC] <;> simp
  · exact h
  · rw [hn]; exact fine_ent h _ _ _
  · rw [hn]; exact fine_ent h _ _ _
  · exact fine_end h hl _
  · exact fine_end h hl _
  · exact fine_end h hl _
theorem takeC_fine {c : Ct} (h : c.fine) (m : Mg) : (takeC c m).fine := by
  unfold takeC
  cases hp : c.ph with
  | none => exact h
  | some x =>
    obtain ⟨p, r⟩ := x
    have hr := h.rd p r hp
    have hn : ({ c with ph := some (p, ntR r m) } : Ct).fine := fine_rd h ⟨by simpa [ntR] using hr.1, hr.2.1, hr.2.2.1, hr.2.2.2.1, hr.2.2.2.2.1, hr.2.2.2.2.2⟩
    simp only [takC]
    split
    · split
      · split
        · exact fine_fol hn rfl (by cases p <;> simp [comV])
        · exact hn
      · exact fine_fol h hp (by cases p <;> simp [refV])
    · exact h
theorem div_step {t s : Int} (h1 : 1 ≤ s) : ((t + 1) % s = 0 → (t + 1) / s = t / s + 1) ∧ ((t + 1) % s ≠ 0 → (t + 1) / s = t / s) := by
  have a1 := Int.mul_ediv_add_emod t s
  have a2 := Int.mul_ediv_add_emod (t + 1) s
  have b1 := Int.emod_nonneg t (show s ≠ 0 by omega)
  have b2 := Int.emod_lt_of_pos t (show 0 < s by omega)
  have b3 := Int.emod_nonneg (t + 1) (show s ≠ 0 by omega)
  have b4 := Int.emod_lt_of_pos (t + 1) (show 0 < s by omega)
  generalize hx : t / s = x at *
  generalize hy : (t + 1) / s = y at *
  generalize t % s = m1 at *
  generalize (t + 1) % s = m2 at *
  have e : s * (y - x) = 1 + m1 - m2 := by rw [Int.mul_sub]; omega
  constructor
  · intro hm
    subst hm
    have lo : 0 < s * (y - x) := by omega
    have hi : s * (y - x) ≤ s := by omega
    have l1 : 0 < y - x := by
      rcases Int.lt_or_le 0 (y - x) with q | q
      · exact q
      · have := Int.mul_le_mul_of_nonneg_left q (show 0 ≤ s by omega); simp at this; omega
    have l2 : y - x ≤ 1 := by
      rcases Int.lt_or_le 1 (y - x) with q | q
      · have := Int.mul_le_mul_of_nonneg_left (show 2 ≤ y - x by omega) (show 0 ≤ s by omega); omega
      · exact q
    omega
  · intro hm
    have lo : -s < s * (y - x) := by omega
    have hi : s * (y - x) < s := by omega
    have l1 : -1 < y - x := by
      rcases Int.lt_or_le (-1) (y - x) with q | q
      · exact q
      · have := Int.mul_le_mul_of_nonneg_left q (show 0 ≤ s by omega); omega
    have l2 : y - x < 1 := by
      rcases Int.lt_or_le (y - x) 1 with q | q
      · exact q
      · have := Int.mul_le_mul_of_nonneg_left q (show 0 ≤ s by omega); omega
    omega
end Go.Proofs.Ytpleakkhbfhdkaa.Cn
