import Derived.Test.YtnegdhnmgkpkjaaGDeMem
import Derived.Test.YtnegdhnmgkpkjaaGDsStab
import Derived.Test.YtnegdhnmgkpkjaaDdSorted
namespace Go.Proofs.Ytnegdhnmgkpkjaa
open Go.RowKit
def updN {α : Type} (f : Nat → α) (k : Nat) (v : α) : Nat → α := fun i => if i = k then v else f i
theorem updN_same {α : Type} (f : Nat → α) (k : Nat) (v : α) : updN f k v k = v := if_pos rfl
theorem updN_other {α : Type} {f : Nat → α} {k i : Nat} {v : α} (h : i ≠ k) : updN f k v i = f i := if_neg h
theorem map_set (n : Nat) (pv : Nat → Value) (k : Nat) (u : Value) : ((List.range n).map pv).set k u = (List.range n).map (updN pv k u) := by
  apply List.ext_getElem
  · simp
  · intro i h1 h2
    rw [List.getElem_set]
    simp only [List.getElem_map, List.getElem_range]
    unfold updN
    by_cases e : k = i
    · rw [if_pos e, if_pos e.symm]
    · rw [if_neg e, if_neg (fun q => e q.symm)]
theorem own_set {w : World} {base e n g cap : Nat} {xs : List Value} (h : w.ownsRow base e 1 (.slice (some ⟨g, 0, none⟩) n cap) n xs) (k : Nat) (u : Value) : (w.setCell ⟨g, k, none⟩ u).ownsRow base e 1 (.slice (some ⟨g, 0, none⟩) n cap) n (xs.set k u) := by
  refine ⟨by rw [List.length_set]; exact h.1, ?_⟩
  rcases h.2 with ⟨hv, _⟩ | ⟨g', cap', cur, hv, h1, h2, h3, h4, h5, h6⟩
  · cases hv
  · injection hv with e1 e2 e3
    injection e1 with e1
    injection e1 with e1
    subst e1 e3
    refine .inr ⟨g, cap, cur.setIfInBounds k u, rfl, h1, heap_setCell _ _ _ _ _ _ _ h2, h3, h4, by simpa using h5, ?_⟩
    rw [Array.toList_setIfInBounds, List.take_set, h6]
/-- all but the story of k -/
structure RfX (w : World) (R : Nat) (vs : Value) (pv : Nat → Value) (tm : Nat → List Int) (d : Dt) (k : Nat) : Prop where
  blk : RfB w R vs d
  row : w.ownsRow 0 85 1 vs d.n ((List.range d.n).map pv)
  ms : ∀ i, i < d.n → i ≠ k → w.ownsRow 0 87 2 (pv i) (tm i).length (mks (tm i))
  ap : ∀ i j, i < d.n → j < d.n → i ≠ j → i ≠ k → j ≠ k → ∀ b, (pv i).ownBlock = some b → (pv j).ownBlock ≠ some b
  hl : ∀ i, i < d.n → i ≠ k → ((tm i).length : Int) = d.st (i : Int)
  he : ∀ i, i < d.n → i ≠ k → d.en (i : Int) = if d.lim ≤ ((tm i).length : Int) then lastT (tm i) + d.ban else 0
  hb : ∀ i, i < d.n → i ≠ k → ∀ t ∈ tm i, 0 ≤ t ∧ t ≤ d.now
section
variable {w w' : World} {R : Nat} {vs : Value} {pv : Nat → Value} {tm : Nat → List Int} {d : Dt} {k : Nat}
theorem RfIn.x (h : RfIn w R vs pv tm d) (k : Nat) : RfX w R vs pv tm d k := ⟨h.blk, h.row, fun i hi _ => h.ms i hi, fun i j hi hj hij _ _ => h.ap i j hi hj hij, fun i hi _ => h.hl i hi, fun i hi _ => h.he i hi, fun i hi _ => h.hb i hi⟩
theorem RfX.kp (h : RfX w R vs pv tm d k) {T : Nat → Prop} (hk : Kp w w' T) (h1 : ¬ T R) (h2 : ∀ b, vs.ownBlock = some b → ¬ T b) (h3 : ∀ i, i < d.n → i ≠ k → ∀ b, (pv i).ownBlock = some b → ¬ T b) : RfX w' R vs pv tm d k :=
  ⟨(hk.block R (blk_lt h.blk) h1).trans h.blk, own_kp h.row hk h2, fun i hi hik => own_kp (h.ms i hi hik) hk (h3 i hi hik), h.ap, h.hl, h.he, h.hb⟩
theorem RfX.put {T cap : Nat} (h : RfX w R (.slice (some ⟨T, 0, none⟩) d.n cap) pv tm d k) {u : Value} {tk : List Int} (hu : w.ownsRow 0 87 2 u tk.length (mks tk)) (hap : ∀ i, i < d.n → i ≠ k → ∀ b, u.ownBlock = some b → (pv i).ownBlock ≠ some b) {d' : Dt} (e1 : d'.n = d.n) (e2 : d'.lim = d.lim) (e3 : d'.ban = d.ban) (e4 : d'.now = d.now)
    (hl : (tk.length : Int) = d'.st (k : Int)) (he : d'.en (k : Int) = if d.lim ≤ (tk.length : Int) then lastT tk + d.ban else 0) (hb : ∀ t ∈ tk, 0 ≤ t ∧ t ≤ d.now) (ho : ∀ i : Nat, i ≠ k → d'.st (i : Int) = d.st (i : Int) ∧ d'.en (i : Int) = d.en (i : Int)) :
    RfIn (w.setCell ⟨T, k, none⟩ u) R (.slice (some ⟨T, 0, none⟩) d.n cap) (updN pv k u) (updN tm k tk) d' := by
  have hkp : Kp w (w.setCell ⟨T, k, none⟩ u) (fun j => j = T) := (Kp.refl w (fun j => j = T)).set (Or.inl rfl) _ _
  obtain ⟨cT, hT⟩ := own_typ h.row (g := T) rfl
  have hRT : R ≠ T := fun e => by
    have := (show w.heap[R]? = _ from h.blk)
    rw [e, hT] at this
    simp at this
  have hMT : ∀ {v : Value} {n : Nat} {xs : List Value} {b : Nat}, w.ownsRow 0 87 2 v n xs → v.ownBlock = some b → ¬ b = T := fun ho hb e => by
    obtain ⟨c2, h2⟩ := own_typ ho hb
    rw [e, hT] at h2
    simp at h2
  refine ⟨?_, ?_, fun i hi => ?_, fun i j hi hj hij b hb1 => ?_, fun i hi => ?_, fun i hi => ?_, fun i hi t ht => ?_⟩
  · have := (hkp.block R (blk_lt h.blk) hRT).trans h.blk
    unfold RfB at this ⊢
    rw [this, e1, e2, e3, e4]
  · rw [e1, ← map_set]
    exact own_set h.row k u
  · rw [e1] at hi
    by_cases e : i = k
    · subst e
      rw [updN_same, updN_same]
      exact own_kp hu hkp (fun b hb => hMT hu hb)
    · rw [updN_other e, updN_other e]
      exact own_kp (h.ms i hi e) hkp (fun b hb => hMT (h.ms i hi e) hb)
  · rw [e1] at hi hj
    by_cases ei : i = k
    · subst ei
      rw [updN_same] at hb1
      rw [updN_other (fun q => hij q.symm)]
      exact hap j hj (fun q => hij q.symm) b hb1
    · rw [updN_other ei] at hb1
      by_cases ej : j = k
      · subst ej
        rw [updN_same]
        exact fun q => hap i hi ei b q hb1
      · rw [updN_other ej]
        exact h.ap i j hi hj hij ei ej b hb1
  · rw [e1] at hi
    by_cases e : i = k
    · subst e; rw [updN_same]; exact hl
    · rw [updN_other e, (ho i e).1]; exact h.hl i hi e
  · rw [e1] at hi
    rw [e2, e3]
    by_cases e : i = k
    · subst e; rw [updN_same]; exact he
    · rw [updN_other e, (ho i e).2]; exact h.he i hi e
  · rw [e1] at hi
    rw [e4]
    by_cases e : i = k
    · subst e; rw [updN_same] at ht; exact hb t ht
    · rw [updN_other e] at ht; exact h.hb i hi e t ht
theorem RfIn.sl (h : RfIn w R vs pv tm d) (hn : 1 ≤ d.n) : ∃ T cap, vs = .slice (some ⟨T, 0, none⟩) d.n cap := by
  obtain ⟨g, cap, e⟩ := own_g h.row (by omega)
  exact ⟨g, cap, e⟩
theorem RfIn.elem {T cap : Nat} (h : RfIn w R (.slice (some ⟨T, 0, none⟩) d.n cap) pv tm d) (hk : k < d.n) : w.cell? ⟨T, k, none⟩ = some (pv k) ∧ w.frozen? ⟨T, k, none⟩ = false := by
  have hj : ((List.range d.n).map pv)[k]? = some (pv k) := by simp [hk]
  obtain ⟨g, c, e, c1, c2⟩ := own_at h.row hj
  injection e with e1 e2 e3
  injection e1 with e1
  injection e1 with e1
  subst e1
  exact ⟨c1, c2⟩
end
set_option maxHeartbeats 4000000 in
set_option maxRecDepth 100000 in
set_option linter.unusedSimpArgs false in
set_option linter.unusedVariables false in
theorem known_any {w : World} {R : Nat} {vs : Value} {d : Dt} (h : RfB w R vs d) (k : Int) :
    Calls Try.prog 48 #[.pointer (some ⟨R, 0, none⟩), .int .i64 k] w fun e w' => e = .returned (.int .i64 (chk1 d.n k)) ∧ w = w' := by
  have c0 := h.c0
  have HC : Hid (chk1 d.n k = if 0 ≤ k ∧ k < (d.n : Int) then 0 else 68) := rfl
  generalize chk1 d.n k = cv at *
  generalize d.n = n at *
  clear h
  by_cases h0 : k < 0
  · obtain rfl : cv = 68 := by rw [HC.out, if_neg (by omega)]
    go_enter Try.func48, Try.ntmps48
    go_wp2_with fail
    go_ret
    exact ⟨rfl, rfl⟩
  · by_cases h1 : (n : Int) ≤ k
    · obtain rfl : cv = 68 := by rw [HC.out, if_neg (by omega)]
      go_enter Try.func48, Try.ntmps48
      go_wp2_with fail
      go_ret
      exact ⟨rfl, rfl⟩
    · obtain rfl : cv = 0 := by rw [HC.out, if_pos (by omega)]
      go_enter Try.func48, Try.ntmps48
      go_wp2_with fail
      go_ret
      exact ⟨rfl, rfl⟩
/-- what a call of the document's leaves -/
def RfDid (w w' : World) (S : Nat → Prop) (R : Nat) (d : Dt) : Prop := ∃ S', RfAt w' S' R d ∧ (∀ k, S' k → S k ∨ w.heap.size ≤ k) ∧ Kp w w' S
theorem RfDid.refl {w : World} {S : Nat → Prop} {R : Nat} {d : Dt} (h : RfAt w S R d) : RfDid w w S R d := ⟨S, h, fun _ e => Or.inl e, Kp.refl _ _⟩
set_option maxHeartbeats 4000000 in
set_option maxRecDepth 100000 in
set_option linter.unusedSimpArgs false in
set_option linter.unusedVariables false in
theorem mark_no {w : World} {S : Nat → Prop} {R : Nat} {d : Dt} (h : RfAt w S R d) (k : Int) (hk : ¬ (0 ≤ k ∧ k < (d.n : Int))) (b : Bool) :
    Calls Try.prog 46 #[.pointer (some ⟨R, 0, none⟩), .int .i64 k, .bool b] w fun e w' => e = .returned (.int .i64 68) ∧ w = w' := by
  obtain ⟨vs, pv, tm, hi, hS⟩ := h
  have KN := known_any hi.blk k
  rw [show chk1 d.n k = 68 from if_neg hk] at KN
  have KN := hide KN
  clear hi hk
  go_enter Try.func46, Try.ntmps46
  go_wp2_with fail
  refine Calls.mono KN.out ?_
  rintro e W1 ⟨rfl, rfl⟩
  go_wp2_with fail
  go_ret
  exact ⟨rfl, rfl⟩
set_option maxHeartbeats 4000000 in
set_option maxRecDepth 100000 in
set_option linter.unusedSimpArgs false in
set_option linter.unusedVariables false in
theorem mark_good {w : World} {S : Nat → Prop} {R : Nat} {d : Dt} (h : RfAt w S R d) (hf : d.fits) (k : Nat) (hk : k < d.n) :
    Calls Try.prog 46 #[.pointer (some ⟨R, 0, none⟩), .int .i64 (k : Int), .bool true] w fun e w' => e = .returned (.int .i64 0) ∧ RfDid w w' S R (d.good (k : Int)) := by
  obtain ⟨vs, pv, tm, hi, hS⟩ := h
  obtain ⟨T, cap, rfl⟩ := hi.sl hf.n1
  have KN := known_any hi.blk (k : Int)
  rw [show chk1 d.n (k : Int) = 0 from if_pos (by omega)] at KN
  have KN := hide KN
  have c4 := hi.blk.c4
  obtain ⟨ce, fe⟩ := hi.elem hk
  have hput := (hi.x k).put (u := .slice none 0 0) (tk := []) (World.ownsRow_nil _ _ _ _) (fun i _ _ b hb => by simp [Value.ownBlock] at hb) (d' := d.good (k : Int)) rfl rfl rfl rfl (by show _ = upd d.st k 0 (k : Int); rw [upd, if_pos rfl]; rfl) (by
    have := hf.l1
    show upd d.en k 0 (k : Int) = _
    rw [upd, if_pos rfl, if_neg (by simp; omega)]) (fun t ht => by cases ht) (fun i hi => by
    show upd d.st k 0 (i : Int) = _ ∧ upd d.en k 0 (i : Int) = _
    unfold upd
    rw [if_neg (by omega), if_neg (by omega)]
    exact ⟨rfl, rfl⟩)
  have HZ : Hid (RfDid w (w.setCell ⟨T, k, none⟩ (.slice none 0 0)) S R (d.good (k : Int))) := by
    refine ⟨RfS R (.slice (some ⟨T, 0, none⟩) d.n cap) (updN pv k (.slice none 0 0)) d.n, ⟨_, _, _, hput, fun _ => Iff.rfl⟩, fun j hj => Or.inl ((hS j).2 ?_), (Kp.refl w S).set (Or.inl ((hS T).2 (Or.inr (Or.inl rfl)))) _ _⟩
    rcases hj with rfl | e | ⟨i, hi, e⟩
    · exact Or.inl rfl
    · exact Or.inr (Or.inl e)
    · by_cases q : i = k
      · subst q; rw [updN_same] at e; simp [Value.ownBlock] at e
      · rw [updN_other q] at e; exact Or.inr (Or.inr ⟨i, hi, e⟩)
  generalize d.good (k : Int) = d' at *
  have hkz : (k : Int) < (d.n : Int) := by omega
  generalize d.n = n at *
  generalize pv k = pk at *
  clear hi hput hf
  go_enter Try.func46, Try.ntmps46
  go_wp2_with fail
  refine Calls.mono KN.out ?_
  rintro e W1 ⟨rfl, rfl⟩
  go_wp2_with fail
  go_ret
  exact ⟨rfl, HZ.out⟩
end Go.Proofs.Ytnegdhnmgkpkjaa
namespace Go.Proofs.Ytnegdhnmgkpkjaa
open Go.RowKit
theorem wp_append_ownT {P : Program} (w : World) {o : Oper} {a : Act} {K : Act → World → Prop} {Q : Exit → Act → World → Prop} (s x : Operand) (t : TypeId)
    (ho : o.op = .call { callee := .builtin .append, args := #[s, x], argTypes := #[t, t] })
    (base : Nat) (e : TypeId) (i : TypeInfo) (z : Value) (size bytes : Nat) (ht : P.underlying t = some (.slice e)) (hi : P.info? e = some i) (hz : i.zero = some z)
    (hsize : i.size = size) (hby : i.bytes = bytes) (hzs : z.cells.size = size) (hsz : 0 < size)
    (v : Value) (n : Nat) (xs : List Value) (hs : a.eval s = v) (hown : w.ownsRow base e size v n xs)
    (ad : Addr) (m c : Nat) (news : List Value) (hx : a.eval x = .slice (some ad) m c) (hl : news.length = m * size) (hnews : ∀ j u, news[j]? = some u → w.cell? (ad.add j) = some u) (h1 : ∀ u ∈ news, u.oneCell' = true)
    (h63 : n + m ≤ maxLen) (hbytes : (n + m) * bytes ≤ 140737488355328) (hbase : base ≤ w.heap.size)
    (h : ∀ v' w', w'.ownsRow base e size v' (n + m) (xs ++ news) → w.grownBy w' v.ownBlock → (v'.ownBlock = v.ownBlock ∨ v'.ownBlock = some w.heap.size) → K (a.put o.dst v') w') : o.wp P a w K Q := by
  obtain ⟨v', w', hr, h2, h3, _, h5⟩ := run_append_own_at (P := P) w base t o.type e i z size bytes ht hi hz hsize hby hzs hsz v n xs hown ad m c news hl hnews h1 h63 hbytes hbase
  unfold Oper.wp execOp
  simp only [ho, resolve, invoke, builtin, Sem.run_bind, Sem.run_pure, Result.andThen_ok, List.map_toArray, List.map_cons, List.map_nil, hs, hx, hr]
  exact h v' w' h2 h3 h5
theorem itYT {c : Prop} [Decidable c] {P Q : Prop} (hc : c) (h : P) : if c then P else Q := by rw [if_pos hc]; exact h
theorem mk_cells (w : World) (t : Int) : ∀ j u, (mks [t])[j]? = some u → (w.alloc (.cells #[.bool false, .int .i64 t] 87)).cell? ((⟨w.heap.size, 0, none⟩ : Addr).add j) = some u := by
  intro j u hj
  have e := heap_last w (.cells #[.bool false, .int .i64 t] 87)
  rw [Addr.add_mid, Nat.zero_add, cell_row e]
  simpa [mks] using hj
theorem cell_kp0 {w w' : World} {b o : Nat} {v : Value} (h : w.cell? ⟨b, o, none⟩ = some v) (hk : Kp w w' non) : w'.cell? ⟨b, o, none⟩ = some v := by
  have e := hk.block b (World.block_lt_of_cell? w _ h) (fun f => f)
  unfold World.cell? at h ⊢
  dsimp only at h ⊢
  rw [e]
  exact h
/-- a story that has grown is laid back -/
theorem RfIn.grown {w w4 : World} {R T cap : Nat} {pv : Nat → Value} {tm : Nat → List Int} {d : Dt} {S : Nat → Prop} (hS : ∀ j, S j ↔ RfS R (.slice (some ⟨T, 0, none⟩) d.n cap) pv d.n j) (h : RfIn w R (.slice (some ⟨T, 0, none⟩) d.n cap) pv tm d) (hf : d.fits) {k : Nat} (hk : k < d.n) (wa : World) (hwa : Below w.heap.size w wa) {v2 : Value} (o4 : w4.ownsRow 0 87 2 v2 ((tm k).length + 1) (mks (tm k) ++ mks [d.now])) (g4 : wa.grownBy w4 (pv k).ownBlock) (at4 : v2.ownBlock = (pv k).ownBlock ∨ v2.ownBlock = some wa.heap.size) :
    RfDid w (w4.setCell ⟨T, k, none⟩ v2) S R (d.bad (k : Int)) ∧ w4.heap[R]? = w.heap[R]? ∧ w4.cell? ⟨T, k, none⟩ = some (pv k) ∧ w4.frozen? ⟨T, k, none⟩ = false := by
  have kA := Kp.of_below hwa non
  have kG := Kp.of_grown g4
  obtain ⟨cT, hT⟩ := own_typ h.row (g := T) rfl
  have hMn : ∀ {b : Nat}, (pv k).ownBlock = some b → b ≠ T ∧ b ≠ R := fun hb => by
    obtain ⟨c2, h2⟩ := own_typ (h.ms k hk) hb
    constructor
    · intro e
      rw [e, hT] at h2
      simp at h2
    · intro e
      rw [e, (show w.heap[R]? = _ from h.blk)] at h2
      simp at h2
  have kW : Kp w w4 (fun j => some j = (pv k).ownBlock) := (kA.mono (fun _ f => f.elim)).trans kG (fun _ e => Or.inl e)
  have hR4 : w4.heap[R]? = w.heap[R]? := kW.block R (blk_lt h.blk) (fun e => (hMn e.symm).2 rfl)
  have hT4 : w4.heap[T]? = w.heap[T]? := kW.block T (blk_lt hT) (fun e => (hMn e.symm).1 rfl)
  have hx : RfX w4 R (.slice (some ⟨T, 0, none⟩) d.n cap) pv tm d k := (h.x k).kp kW (fun e => (hMn e.symm).2 rfl) (fun b hb e => by simp [Value.ownBlock] at hb; subst hb; exact (hMn e.symm).1 rfl) (fun i hi hik b hb e => h.ap i k hi hk hik b hb e.symm)
  have hlk := h.hl k hk
  have t0 := hf.t0
  rw [← mks_append] at o4
  have o5 : w4.ownsRow 0 87 2 v2 (tm k ++ [d.now]).length (mks (tm k ++ [d.now])) := by rw [List.length_append]; exact o4
  have hput := hx.put (u := v2) (tk := tm k ++ [d.now]) o5 (fun i hi hik b hb => by
    rcases at4 with e | e
    · rw [e] at hb
      exact fun q => h.ap i k hi hk hik b q hb
    · rw [e] at hb
      cases hb
      exact fun q => by
        have := own_lt (h.ms i hi) q
        have := hwa.size
        omega) (d' := d.bad (k : Int)) rfl rfl rfl rfl (by
    show _ = upd d.st k (d.st k + 1) (k : Int)
    rw [upd, if_pos rfl, ← hlk, List.length_append]
    simp) (by
    show (if d.lim ≤ d.st k + 1 then upd d.en k (d.now + d.ban) else d.en) (k : Int) = _
    rw [← hlk, show ((tm k ++ [d.now]).length : Int) = ((tm k).length : Int) + 1 by simp]
    by_cases q : d.lim ≤ ((tm k).length : Int) + 1
    · rw [if_pos q, if_pos q, upd, if_pos rfl]
      simp [lastT]
    · rw [if_neg q, if_neg q, h.he k hk, if_neg (by omega)]) (fun t ht => by
    rcases List.mem_append.1 ht with q | q
    · exact h.hb k hk t q
    · rw [List.mem_singleton.1 q]; omega) (fun i hi => by
    show upd d.st k _ (i : Int) = _ ∧ (if d.lim ≤ d.st k + 1 then upd d.en k (d.now + d.ban) else d.en) (i : Int) = _
    unfold upd
    rw [if_neg (by omega)]
    refine ⟨rfl, ?_⟩
    split
    · show (if (i : Int) = (k : Int) then _ else _) = _
      rw [if_neg (by omega)]
    · rfl)
  obtain ⟨ce, fe⟩ := h.elem hk
  refine ⟨⟨RfS R (.slice (some ⟨T, 0, none⟩) d.n cap) (updN pv k v2) d.n, ⟨_, _, _, hput, fun _ => Iff.rfl⟩, fun j hj => ?_, ?_⟩, hR4, ?_, ?_⟩
  · rcases hj with rfl | e | ⟨i, hi, e⟩
    · exact Or.inl ((hS _).2 (Or.inl rfl))
    · exact Or.inl ((hS _).2 (Or.inr (Or.inl e)))
    · by_cases q : i = k
      · subst q
        rw [updN_same] at e
        rcases at4 with r | r
        · rw [r] at e; exact Or.inl ((hS _).2 (Or.inr (Or.inr ⟨i, hi, e⟩)))
        · rw [r] at e; cases e; exact Or.inr hwa.size
      · rw [updN_other q] at e; exact Or.inl ((hS _).2 (Or.inr (Or.inr ⟨i, hi, e⟩)))
  · exact (kW.mono (fun j e => (hS j).2 (Or.inr (Or.inr ⟨k, hk, e.symm⟩)))).set (Or.inl ((hS T).2 (Or.inr (Or.inl rfl)))) _ _
  · unfold World.cell? at ce ⊢
    dsimp only at ce ⊢
    rw [hT4]
    exact ce
  · unfold World.frozen? at fe ⊢
    dsimp only at fe ⊢
    rw [hT4]
    exact fe
set_option maxHeartbeats 8000000 in
set_option maxRecDepth 100000 in
set_option linter.unusedSimpArgs false in
set_option linter.unusedVariables false in
theorem mark_bad {w : World} {S : Nat → Prop} {R : Nat} {d : Dt} (h : RfAt w S R d) (hf : d.fits) (k : Nat) (hk : k < d.n) (hs : d.st (k : Int) ≤ 1000000000) :
    Calls Try.prog 46 #[.pointer (some ⟨R, 0, none⟩), .int .i64 (k : Int), .bool false] w fun e w' => e = .returned (.int .i64 0) ∧ RfDid w w' S R (d.bad (k : Int)) := by
  obtain ⟨vs, pv, tm, hi, hS⟩ := h
  obtain ⟨T, cap, rfl⟩ := hi.sl hf.n1
  have KN := known_any hi.blk (k : Int)
  rw [show chk1 d.n (k : Int) = 0 from if_pos (by omega)] at KN
  have KN := hide KN
  have c3 := hi.blk.c3
  have c4 := hi.blk.c4
  obtain ⟨ce, fe⟩ := hi.elem hk
  have hm : (tm k).length ≤ 1000000000 := by have := hi.hl k hk; omega
  obtain ⟨ba, cp, hpk⟩ := own_sl (hi.ms k hk)
  have HRow : Hid (w.drew.ownsRow 0 87 2 (.slice ba (tm k).length cp) (tm k).length (mks (tm k))) := by
    rw [← hpk]
    exact own_kp (hi.ms k hk) (Kp.refl w non).drew (fun _ _ f => f)
  have HFIN : Hid (∀ (w4 : World) (v2 : Value), w4.ownsRow 0 87 2 v2 ((tm k).length + 1) (mks (tm k) ++ mks [d.now]) → (w.drew.alloc (.cells #[.bool false, .int .i64 d.now] 87)).grownBy w4 (Value.slice ba (tm k).length cp).ownBlock → (v2.ownBlock = (Value.slice ba (tm k).length cp).ownBlock ∨ v2.ownBlock = some (w.drew.alloc (.cells #[.bool false, .int .i64 d.now] 87)).heap.size) → RfDid w (w4.setCell ⟨T, k, none⟩ v2) S R (d.bad (k : Int)) ∧ (w4.cell? ⟨R, 3, none⟩ = some (.int .i64 d.now) ∧ w4.cell? ⟨R, 4, none⟩ = some (.slice (some ⟨T, 0, none⟩) d.n cap)) ∧ ((w4.setCell ⟨T, k, none⟩ v2).cell? ⟨R, 3, none⟩ = some (.int .i64 d.now) ∧ (w4.setCell ⟨T, k, none⟩ v2).cell? ⟨R, 4, none⟩ = some (.slice (some ⟨T, 0, none⟩) d.n cap)) ∧ w4.cell? ⟨T, k, none⟩ = some (.slice ba (tm k).length cp) ∧ w4.frozen? ⟨T, k, none⟩ = false) := fun w4 v2 o4 g4 at4 => by
    rw [← hpk] at g4 at4
    obtain ⟨r1, r2, r3, r4⟩ := RfIn.grown hS hi hf hk _ ((((Kp.refl w non).drew).alloc _).below) o4 g4 at4
    have hb4 : RfB w4 R (.slice (some ⟨T, 0, none⟩) d.n cap) d := r2.trans hi.blk
    have hRT : R ≠ T := fun e => by
      obtain ⟨cT, hT⟩ := own_typ hi.row (g := T) rfl
      have := (show w.heap[R]? = _ from hi.blk)
      rw [e, hT] at this
      simp at this
    have hb5 : RfB (w4.setCell ⟨T, k, none⟩ v2) R (.slice (some ⟨T, 0, none⟩) d.n cap) d := (Below.heap_setCell _ _ _ R (fun e => hRT e)).trans hb4
    exact ⟨r1, ⟨hb4.c3, hb4.c4⟩, ⟨hb5.c3, hb5.c4⟩, hpk ▸ r3, r4⟩
  rw [hpk] at ce
  obtain ⟨i0, hi0, hz0, hz1, hz2⟩ := info_parts mk_infos
  have hkz : (k : Int) < (d.n : Int) := by omega
  generalize d.bad (k : Int) = d' at *
  generalize tm k = tk at *
  generalize d.n = n at *
  generalize d.now = now at *
  clear hi hf hpk hs
  go_enter Try.func46, Try.ntmps46
  go_wp2_with fail
  refine Calls.mono KN.out ?_
  rintro e W1 ⟨rfl, rfl⟩
  clear KN
  go_wp2_with fail
  have ce' : w.drew.cell? ⟨T, k, none⟩ = some (.slice ba tk.length cp) := ce
  refine wp_region_held_drew (S := fun Z => Z.cell? ⟨R, 3, none⟩ = some (.int .i64 now) ∧ Z.cell? ⟨R, 4, none⟩ = some (.slice (some ⟨T, 0, none⟩) n cap)) (by kernel_rfl) ⟨c3, c4⟩ (fun hHeld => ?_)
  refine wpAnyH_take (i := 0) (v := (.pointer (some ⟨R, 0, none⟩))) rfl (by kernel_rfl) (by kernel_rfl) (by kernel_rfl) (fun _ _ _ h => h) (Or.inl ⟨by rfl, ?_⟩) (by assumption) ?_
  · intro w' hSw
    (try dsimp only at hSw)
    go_simp
  (try simp only [Act.put, List.getElem_toArray, List.getElem_cons_zero, List.getElem_cons_succ, List.setIfInBounds_toArray, List.set_cons_zero, List.set_cons_succ])
  refine wpAnyH_take (i := 1) (v := (.pointer (some ⟨R, 0, none⟩))) rfl (by kernel_rfl) (by kernel_rfl) (by kernel_rfl) (fun _ _ _ h => h) (Or.inl ⟨by rfl, ?_⟩) (by assumption) ?_
  · intro w' hSw
    (try dsimp only at hSw)
    go_simp
  (try simp only [Act.put, List.getElem_toArray, List.getElem_cons_zero, List.getElem_cons_succ, List.setIfInBounds_toArray, List.set_cons_zero, List.set_cons_succ])
  refine wpAnyH_take (i := 2) (v := (.pointer (some ⟨R, 4, none⟩))) rfl (by kernel_rfl) (by kernel_rfl) (by kernel_rfl) (fun _ _ _ h => h) (Or.inl ⟨by rfl, ?_⟩) (by assumption) ?_
  · intro w' hSw
    (try dsimp only at hSw)
    go_simp
  (try simp only [Act.put, List.getElem_toArray, List.getElem_cons_zero, List.getElem_cons_succ, List.setIfInBounds_toArray, List.set_cons_zero, List.set_cons_succ])
  refine wpAnyH_take (i := 3) (v := (.slice (some ⟨T, 0, none⟩) n cap)) rfl (by kernel_rfl) (by kernel_rfl) (by kernel_rfl) (fun _ _ _ h => h) (Or.inl ⟨by rfl, ?_⟩) (by assumption) ?_
  · intro w' hSw
    (try dsimp only at hSw)
    (have y := hSw.2; go_simp)
  (try simp only [Act.put, List.getElem_toArray, List.getElem_cons_zero, List.getElem_cons_succ, List.setIfInBounds_toArray, List.set_cons_zero, List.set_cons_succ])
  refine wpAnyH_take (i := 4) (v := (.int .i64 (k : Int))) rfl (by kernel_rfl) (by kernel_rfl) (by kernel_rfl) (fun _ _ _ h => h) (Or.inl ⟨by rfl, ?_⟩) (by assumption) ?_
  · intro w' hSw
    (try dsimp only at hSw)
    go_simp
  (try simp only [Act.put, List.getElem_toArray, List.getElem_cons_zero, List.getElem_cons_succ, List.setIfInBounds_toArray, List.set_cons_zero, List.set_cons_succ])
  refine wpAnyH_take (i := 5) (v := (.pointer (some ⟨R, 0, none⟩))) rfl (by kernel_rfl) (by kernel_rfl) (by kernel_rfl) (fun _ _ _ h => h) (Or.inl ⟨by rfl, ?_⟩) (by assumption) ?_
  · intro w' hSw
    (try dsimp only at hSw)
    go_simp
  (try simp only [Act.put, List.getElem_toArray, List.getElem_cons_zero, List.getElem_cons_succ, List.setIfInBounds_toArray, List.set_cons_zero, List.set_cons_succ])
  refine wpAnyH_take (i := 6) (v := (.pointer (some ⟨R, 0, none⟩))) rfl (by kernel_rfl) (by kernel_rfl) (by kernel_rfl) (fun _ _ _ h => h) (Or.inl ⟨by rfl, ?_⟩) (by assumption) ?_
  · intro w' hSw
    (try dsimp only at hSw)
    go_simp
  (try simp only [Act.put, List.getElem_toArray, List.getElem_cons_zero, List.getElem_cons_succ, List.setIfInBounds_toArray, List.set_cons_zero, List.set_cons_succ])
  refine wpAnyH_take (i := 7) (v := (.pointer (some ⟨R, 4, none⟩))) rfl (by kernel_rfl) (by kernel_rfl) (by kernel_rfl) (fun _ _ _ h => h) (Or.inl ⟨by rfl, ?_⟩) (by assumption) ?_
  · intro w' hSw
    (try dsimp only at hSw)
    go_simp
  (try simp only [Act.put, List.getElem_toArray, List.getElem_cons_zero, List.getElem_cons_succ, List.setIfInBounds_toArray, List.set_cons_zero, List.set_cons_succ])
  refine wpAnyH_take (i := 8) (v := (.slice (some ⟨T, 0, none⟩) n cap)) rfl (by kernel_rfl) (by kernel_rfl) (by kernel_rfl) (fun _ _ _ h => h) (Or.inl ⟨by rfl, ?_⟩) (by assumption) ?_
  · intro w' hSw
    (try dsimp only at hSw)
    (have y := hSw.2; go_simp)
  (try simp only [Act.put, List.getElem_toArray, List.getElem_cons_zero, List.getElem_cons_succ, List.setIfInBounds_toArray, List.set_cons_zero, List.set_cons_succ])
  refine wpAnyH_take (i := 9) (v := (.int .i64 (k : Int))) rfl (by kernel_rfl) (by kernel_rfl) (by kernel_rfl) (fun _ _ _ h => h) (Or.inl ⟨by rfl, ?_⟩) (by assumption) ?_
  · intro w' hSw
    (try dsimp only at hSw)
    go_simp
  (try simp only [Act.put, List.getElem_toArray, List.getElem_cons_zero, List.getElem_cons_succ, List.setIfInBounds_toArray, List.set_cons_zero, List.set_cons_succ])
  refine wpAnyH_take (i := 10) (v := (.pointer (some ⟨T, k, none⟩))) rfl (by kernel_rfl) (by kernel_rfl) (by kernel_rfl) (fun _ _ _ h => h) (Or.inl ⟨by rfl, ?_⟩) (by assumption) ?_
  · intro w' hSw
    (try dsimp only at hSw)
    go_simp
  (try simp only [Act.put, List.getElem_toArray, List.getElem_cons_zero, List.getElem_cons_succ, List.setIfInBounds_toArray, List.set_cons_zero, List.set_cons_succ])
  refine wpAnyH_take (i := 12) (v := (.bool false)) rfl (by kernel_rfl) (by kernel_rfl) (by kernel_rfl) (fun _ _ _ h => h) (Or.inl ⟨by rfl, ?_⟩) (by assumption) ?_
  · intro w' hSw
    (try dsimp only at hSw)
    go_simp
  (try simp only [Act.put, List.getElem_toArray, List.getElem_cons_zero, List.getElem_cons_succ, List.setIfInBounds_toArray, List.set_cons_zero, List.set_cons_succ])
  refine wpAnyH_take (i := 13) (v := (.pointer (some ⟨R, 0, none⟩))) rfl (by kernel_rfl) (by kernel_rfl) (by kernel_rfl) (fun _ _ _ h => h) (Or.inl ⟨by rfl, ?_⟩) (by assumption) ?_
  · intro w' hSw
    (try dsimp only at hSw)
    go_simp
  (try simp only [Act.put, List.getElem_toArray, List.getElem_cons_zero, List.getElem_cons_succ, List.setIfInBounds_toArray, List.set_cons_zero, List.set_cons_succ])
  refine wpAnyH_take (i := 14) (v := (.pointer (some ⟨R, 0, none⟩))) rfl (by kernel_rfl) (by kernel_rfl) (by kernel_rfl) (fun _ _ _ h => h) (Or.inl ⟨by rfl, ?_⟩) (by assumption) ?_
  · intro w' hSw
    (try dsimp only at hSw)
    go_simp
  (try simp only [Act.put, List.getElem_toArray, List.getElem_cons_zero, List.getElem_cons_succ, List.setIfInBounds_toArray, List.set_cons_zero, List.set_cons_succ])
  refine wpAnyH_take (i := 15) (v := (.pointer (some ⟨R, 3, none⟩))) rfl (by kernel_rfl) (by kernel_rfl) (by kernel_rfl) (fun _ _ _ h => h) (Or.inl ⟨by rfl, ?_⟩) (by assumption) ?_
  · intro w' hSw
    (try dsimp only at hSw)
    go_simp
  (try simp only [Act.put, List.getElem_toArray, List.getElem_cons_zero, List.getElem_cons_succ, List.setIfInBounds_toArray, List.set_cons_zero, List.set_cons_succ])
  refine wpAnyH_take (i := 16) (v := (.int .i64 now)) rfl (by kernel_rfl) (by kernel_rfl) (by kernel_rfl) (fun _ _ _ h => h) (Or.inl ⟨by rfl, ?_⟩) (by assumption) ?_
  · intro w' hSw
    (try dsimp only at hSw)
    (have y := hSw.1; go_simp)
  (try simp only [Act.put, List.getElem_toArray, List.getElem_cons_zero, List.getElem_cons_succ, List.setIfInBounds_toArray, List.set_cons_zero, List.set_cons_succ])
  refine wpAnyH_take (i := 17) (v := (.agg #[.bool false, .int .i64 now])) rfl (by kernel_rfl) (by kernel_rfl) (by kernel_rfl) (fun _ _ _ h => h) (Or.inl ⟨by rfl, ?_⟩) (by assumption) ?_
  · intro w' hSw
    (try dsimp only at hSw)
    go_simp
  (try simp only [Act.put, List.getElem_toArray, List.getElem_cons_zero, List.getElem_cons_succ, List.setIfInBounds_toArray, List.set_cons_zero, List.set_cons_succ])
  have d3 : (w.drew.alloc (.cells #[.bool false, .int .i64 now] 87)).cell? ⟨R, 3, none⟩ = some (.int .i64 now) := cell_kp0 c3 ((Kp.refl w non).drew.alloc _)
  have d4 : (w.drew.alloc (.cells #[.bool false, .int .i64 now] 87)).cell? ⟨R, 4, none⟩ = some (.slice (some ⟨T, 0, none⟩) n cap) := cell_kp0 c4 ((Kp.refl w non).drew.alloc _)
  have dk : (w.drew.alloc (.cells #[.bool false, .int .i64 now] 87)).cell? ⟨T, k, none⟩ = some (.slice ba tk.length cp) := cell_kp0 ce ((Kp.refl w non).drew.alloc _)
  have dk2 : (w.alloc (.cells #[.bool false, .int .i64 now] 87)).cell? ⟨T, k, none⟩ = some (.slice ba tk.length cp) := cell_kp0 ce ((Kp.refl w non).alloc _)
  refine wpAnyH_ready (rs := [11, 18]) (by kernel_rfl) (by simp) ?_
  refine AllReadyH.cons rfl (fun K hK => ?_) (AllReadyH.cons rfl (fun K hK => ?_) AllReadyH.nil)
  · skip
    go_simp
    refine hK.out _ _ (⟨c3, c4⟩) (fun hHeld => ?_)
    clear hK
    (try simp only [Act.put, List.setIfInBounds_toArray, List.set_cons_zero, List.set_cons_succ])
    refine wpAnyH_ready (rs := [18]) (by kernel_rfl) (by simp) ?_
    refine AllReadyH.cons rfl (fun K hK => ?_) AllReadyH.nil
    go_simp
    refine hK.out _ _ (⟨d3, d4⟩) (fun hHeld => ?_)
    clear hK
    (try simp only [Act.put, List.setIfInBounds_toArray, List.set_cons_zero, List.set_cons_succ])
    refine wpAnyH_ready (rs := [19]) (by kernel_rfl) (by simp) ?_
    refine AllReadyH.cons rfl (fun K hK => ?_) AllReadyH.nil
    refine itYT (by rfl) ?_
    refine wp_append_ownT (w.drew.alloc (.cells #[.bool false, .int .i64 now] 87)) (.tmp 32) (.tmp 39) 85 ?hAo 0 87 i0 _ 2 16 Try.underlying85 hi0 hz0 hz1 hz2 ?hAzs (by decide) (.slice ba tk.length cp) tk.length (mks tk) ?hAs (own_kp HRow.out ((Kp.refl _ non).alloc _) (fun _ _ f => f)) ⟨w.drew.heap.size, 0, none⟩ 1 1 (mks [now]) ?hAx rfl (mk_cells w.drew now) (mks_one _) (by unfold maxLen; omega) (by omega) (Nat.zero_le _) ?hAk
    case hAo => rfl
    case hAzs => rfl
    case hAs => kernel_rfl
    case hAx => kernel_rfl
    intro v2 w4 o4 g4 at4
    obtain ⟨hZ, hA, hB, k3, z3⟩ := HFIN.out w4 v2 o4 g4 at4
    obtain ⟨g2, cap2, hv2⟩ := own_g o4 (by omega)
    subst hv2
    have HZ := hide hZ
    have HA := hide hA
    have HB := hide hB
    clear hZ hA hB o4 g4 at4 HFIN
    refine hK.out _ _ (HA.out) (fun hHeld => ?_)
    clear hK
    (try simp only [Act.put, List.setIfInBounds_toArray, List.set_cons_zero, List.set_cons_succ])
    refine wpAnyH_take (i := 20) (v := (.pointer (some ⟨T, k, none⟩))) rfl (by kernel_rfl) (by kernel_rfl) (by kernel_rfl) (fun _ _ _ h => h) (Or.inl ⟨by rfl, ?_⟩) (by assumption) ?_
    · intro w' hSw
      (try dsimp only at hSw)
      go_simp
    (try simp only [Act.put, List.getElem_toArray, List.getElem_cons_zero, List.getElem_cons_succ, List.setIfInBounds_toArray, List.set_cons_zero, List.set_cons_succ])
    refine wpAnyH_ready (rs := [21]) (by kernel_rfl) (by simp) ?_
    refine AllReadyH.cons rfl (fun K hK => ?_) AllReadyH.nil
    go_simp
    refine hK.out _ _ (HB.out) (fun hHeld => ?_)
    clear hK
    (try simp only [Act.put, List.setIfInBounds_toArray, List.set_cons_zero, List.set_cons_succ])
    refine wpAnyH_done (by kernel_rfl) ?_ _
    clear hHeld k3 z3
    generalize w4.setCell ⟨T, k, none⟩ (.slice (some ⟨g2, 0, none⟩) (tk.length + 1) cap2) = W9 at *
    go_wp2_with fail
    go_ret
    exact ⟨rfl, HZ.out⟩
  · skip
    go_simp
    refine hK.out _ _ (⟨d3, d4⟩) (fun hHeld => ?_)
    clear hK
    (try simp only [Act.put, List.setIfInBounds_toArray, List.set_cons_zero, List.set_cons_succ])
    refine wpAnyH_ready (rs := [11]) (by kernel_rfl) (by simp) ?_
    refine AllReadyH.cons rfl (fun K hK => ?_) AllReadyH.nil
    go_simp
    refine hK.out _ _ (⟨d3, d4⟩) (fun hHeld => ?_)
    clear hK
    (try simp only [Act.put, List.setIfInBounds_toArray, List.set_cons_zero, List.set_cons_succ])
    refine wpAnyH_ready (rs := [19]) (by kernel_rfl) (by simp) ?_
    refine AllReadyH.cons rfl (fun K hK => ?_) AllReadyH.nil
    refine itYT (by rfl) ?_
    refine wp_append_ownT (w.drew.alloc (.cells #[.bool false, .int .i64 now] 87)) (.tmp 32) (.tmp 39) 85 ?hBo 0 87 i0 _ 2 16 Try.underlying85 hi0 hz0 hz1 hz2 ?hBzs (by decide) (.slice ba tk.length cp) tk.length (mks tk) ?hBs (own_kp HRow.out ((Kp.refl _ non).alloc _) (fun _ _ f => f)) ⟨w.drew.heap.size, 0, none⟩ 1 1 (mks [now]) ?hBx rfl (mk_cells w.drew now) (mks_one _) (by unfold maxLen; omega) (by omega) (Nat.zero_le _) ?hBk
    case hBo => rfl
    case hBzs => rfl
    case hBs => kernel_rfl
    case hBx => kernel_rfl
    intro v2 w4 o4 g4 at4
    obtain ⟨hZ, hA, hB, k3, z3⟩ := HFIN.out w4 v2 o4 g4 at4
    obtain ⟨g2, cap2, hv2⟩ := own_g o4 (by omega)
    subst hv2
    have HZ := hide hZ
    have HA := hide hA
    have HB := hide hB
    clear hZ hA hB o4 g4 at4 HFIN
    refine hK.out _ _ (HA.out) (fun hHeld => ?_)
    clear hK
    (try simp only [Act.put, List.setIfInBounds_toArray, List.set_cons_zero, List.set_cons_succ])
    refine wpAnyH_take (i := 20) (v := (.pointer (some ⟨T, k, none⟩))) rfl (by kernel_rfl) (by kernel_rfl) (by kernel_rfl) (fun _ _ _ h => h) (Or.inl ⟨by rfl, ?_⟩) (by assumption) ?_
    · intro w' hSw
      (try dsimp only at hSw)
      go_simp
    (try simp only [Act.put, List.getElem_toArray, List.getElem_cons_zero, List.getElem_cons_succ, List.setIfInBounds_toArray, List.set_cons_zero, List.set_cons_succ])
    refine wpAnyH_ready (rs := [21]) (by kernel_rfl) (by simp) ?_
    refine AllReadyH.cons rfl (fun K hK => ?_) AllReadyH.nil
    go_simp
    refine hK.out _ _ (HB.out) (fun hHeld => ?_)
    clear hK
    (try simp only [Act.put, List.setIfInBounds_toArray, List.set_cons_zero, List.set_cons_succ])
    refine wpAnyH_done (by kernel_rfl) ?_ _
    clear hHeld k3 z3
    generalize w4.setCell ⟨T, k, none⟩ (.slice (some ⟨g2, 0, none⟩) (tk.length + 1) cap2) = W9 at *
    go_wp2_with fail
    go_ret
    exact ⟨rfl, HZ.out⟩
end Go.Proofs.Ytnegdhnmgkpkjaa
namespace Go.Proofs.Ytnegdhnmgkpkjaa
open Go.RowKit
set_option maxHeartbeats 4000000 in
set_option maxRecDepth 100000 in
set_option linter.unusedSimpArgs false in
set_option linter.unusedVariables false in
theorem rGood_all {w : World} {S : Nat → Prop} {R : Nat} {d : Dt} (h : RfAt w S R d) (hf : d.fits) (k : Int) :
    Calls Try.prog 38 #[.pointer (some ⟨R, 0, none⟩), .int .i64 k] w fun e w' => e = .returned (.int .i64 (chk1 d.n k)) ∧ RfDid w w' S R (d.does 1 k) := by
  have MK : Calls Try.prog 46 #[.pointer (some ⟨R, 0, none⟩), .int .i64 k, .bool true] w fun e w' => e = .returned (.int .i64 (chk1 d.n k)) ∧ RfDid w w' S R (d.does 1 k) := by
    unfold Dt.does
    rw [if_pos rfl]
    by_cases hk : 0 ≤ k ∧ k < (d.n : Int)
    · rw [if_pos hk, show chk1 d.n k = 0 from if_pos hk]
      obtain ⟨m, rfl⟩ : ∃ m : Nat, k = (m : Int) := ⟨k.toNat, by omega⟩
      exact mark_good h hf m (by omega)
    · rw [if_neg hk, show chk1 d.n k = 68 from if_neg hk]
      refine Calls.mono (mark_no h k hk true) ?_
      rintro e w' ⟨rfl, rfl⟩
      exact ⟨rfl, RfDid.refl h⟩
  have MK := hide MK
  generalize chk1 d.n k = cv at *
  generalize d.does 1 k = d' at *
  clear h hf
  go_enter Try.func38, Try.ntmps38
  go_wp2_with fail
  refine Calls.mono MK.out ?_
  rintro e W1 ⟨rfl, hW⟩
  have HW := hide hW
  clear hW
  go_wp2_with fail
  go_ret
  exact ⟨rfl, HW.out⟩
set_option maxHeartbeats 4000000 in
set_option maxRecDepth 100000 in
set_option linter.unusedSimpArgs false in
set_option linter.unusedVariables false in
theorem rBad_all {w : World} {S : Nat → Prop} {R : Nat} {d : Dt} (h : RfAt w S R d) {m : Nat} (hf : d.upto m) (hm : m ≤ 1000000) (k : Int) :
    Calls Try.prog 39 #[.pointer (some ⟨R, 0, none⟩), .int .i64 k] w fun e w' => e = .returned (.int .i64 (chk1 d.n k)) ∧ RfDid w w' S R (d.does 2 k) := by
  have MK : Calls Try.prog 46 #[.pointer (some ⟨R, 0, none⟩), .int .i64 k, .bool false] w fun e w' => e = .returned (.int .i64 (chk1 d.n k)) ∧ RfDid w w' S R (d.does 2 k) := by
    unfold Dt.does
    rw [if_neg (by decide), if_pos rfl]
    by_cases hk : 0 ≤ k ∧ k < (d.n : Int)
    · rw [if_pos hk, show chk1 d.n k = 0 from if_pos hk]
      obtain ⟨q, rfl⟩ : ∃ m : Nat, k = (m : Int) := ⟨k.toNat, by omega⟩
      exact mark_bad h hf.ft q (by omega) (by have := hf.s1 (q : Int); omega)
    · rw [if_neg hk, show chk1 d.n k = 68 from if_neg hk]
      refine Calls.mono (mark_no h k hk false) ?_
      rintro e w' ⟨rfl, rfl⟩
      exact ⟨rfl, RfDid.refl h⟩
  have MK := hide MK
  generalize chk1 d.n k = cv at *
  generalize d.does 2 k = d' at *
  clear h hf
  go_enter Try.func39, Try.ntmps39
  go_wp2_with fail
  refine Calls.mono MK.out ?_
  rintro e W1 ⟨rfl, hW⟩
  have HW := hide hW
  clear hW
  go_wp2_with fail
  go_ret
  exact ⟨rfl, HW.out⟩
set_option maxHeartbeats 4000000 in
set_option maxRecDepth 100000 in
set_option linter.unusedSimpArgs false in
set_option linter.unusedVariables false in
theorem rTick_any {w : World} {S : Nat → Prop} {R : Nat} {d : Dt} (h : RfAt w S R d) (hf : d.fits) (ht : d.now < 4611686018427387904) :
    Calls Try.prog 47 #[.pointer (some ⟨R, 0, none⟩)] w fun e w' => e = .returned (.int .i64 0) ∧ RfAt w' S R d.tick ∧ Kp w w' S := by
  obtain ⟨vs, pv, tm, hi, hS⟩ := h
  have c3 := hi.blk.c3
  have f3 := fz_row (show w.heap[R]? = _ from hi.blk) 3
  have t0 := hf.t0
  have ew := wrap_in (x := d.now + 1) (by omega) (by omega)
  have hk : Kp w (w.setCell ⟨R, 3, none⟩ (.int .i64 (d.now + 1))) (fun j => j = R) := (Kp.refl w (fun j => j = R)).set (Or.inl rfl) _ _
  have HZ : Hid (RfAt (w.setCell ⟨R, 3, none⟩ (.int .i64 (d.now + 1))) S R d.tick) := by
    have hRr : ∀ {v : Value} {e sz n : Nat} {xs : List Value} {b : Nat}, w.ownsRow 0 e sz v n xs → e ≠ 79 → v.ownBlock = some b → ¬ b = R := fun ho hne hb e => by
      obtain ⟨c2, h2⟩ := own_typ ho hb
      rw [e, (show w.heap[R]? = _ from hi.blk)] at h2
      simp at h2
      exact hne h2.2.symm
    refine ⟨vs, pv, tm, ⟨?_, own_kp hi.row hk (fun b hb => hRr hi.row (by decide) hb), fun i h2 => own_kp (hi.ms i h2) hk (fun b hb => hRr (hi.ms i h2) (by decide) hb), hi.ap, hi.hl, hi.he, fun i h2 t ht => by have := hi.hb i h2 t ht; show 0 ≤ t ∧ t ≤ d.now + 1; omega⟩, hS⟩
    unfold RfB
    rw [heap_setCell _ _ _ _ _ _ _ (show w.heap[R]? = _ from hi.blk)]
    rfl
  have HK : Hid (Kp w (w.setCell ⟨R, 3, none⟩ (.int .i64 (d.now + 1))) S) := (Kp.refl w S).set (Or.inl ((hS R).2 (Or.inl rfl))) _ _
  generalize d.tick = d' at *
  generalize d.now = now at *
  clear hi hk
  go_enter Try.func47, Try.ntmps47
  go_wp2_with fail
  go_ret
  exact ⟨rfl, by simpa only [ew] using HZ.out, by simpa only [ew] using HK.out⟩
set_option maxHeartbeats 8000000 in
set_option maxRecDepth 100000 in
set_option linter.unusedSimpArgs false in
set_option linter.unusedVariables false in
theorem rEnd_any {w : World} {S : Nat → Prop} {R : Nat} {d : Dt} (h : RfAt w S R d) {q0 : Nat} (hf : d.upto q0) (hq : q0 ≤ 1000000) (k : Nat) (hk : k < d.n) :
    Calls Try.prog 49 #[.pointer (some ⟨R, 0, none⟩), .int .i64 (k : Int)] w fun e w' => e = .returned (.int .i64 (d.en (k : Int))) ∧ ∃ q, w' = w.drewN q := by
  obtain ⟨vs, pv, tm, hi, hS⟩ := h
  obtain ⟨T, cap, rfl⟩ := hi.sl hf.ft.n1
  have c1 := hi.blk.c1
  have c2 := hi.blk.c2
  have c4 := hi.blk.c4
  obtain ⟨ce, fe⟩ := hi.elem hk
  have hen := hi.he k hk
  have hlen := hi.hl k hk
  have hst := hf.s1 (k : Int)
  have hl1 := hf.ft.l1
  have hb0 := hf.ft.b1
  have hb1 := hf.ft.b1024
  have hnow := hf.t1
  have hrow := hi.ms k hk
  have hbd := hi.hb k hk
  have hkz : (k : Int) < (d.n : Int) := by omega
  generalize d.en (k : Int) = en at *
  generalize d.st (k : Int) = st at *
  generalize d.now = now at *
  generalize tm k = tk at *
  obtain ⟨ba, cp, hpk⟩ := own_sl hrow
  rw [hpk] at ce hrow
  by_cases hlt : (tk.length : Int) < d.lim
  · rw [if_neg (by omega)] at hen
    subst hen
    generalize d.lim = lim at *
    generalize d.n = n at *
    clear hi hrow hbd hpk fe
    go_enter Try.func49, Try.ntmps49
    go_wp2_with fail
    go_ret
    exact ⟨rfl, 0, rfl⟩
  · rw [if_pos (by omega)] at hen
    obtain ⟨mp, hmp⟩ : ∃ mp, mp + 1 = tk.length := ⟨tk.length - 1, by omega⟩
    have hj := mks_at tk mp (by omega)
    obtain ⟨g, cp', e1, cl, _⟩ := own_at hrow hj
    injection e1 with e1 e2 e3
    subst e1 e3
    have hlast : tk[mp]'(by omega) = lastT tk := by
      unfold lastT
      rw [List.getLastD_eq_getLast?, List.getLast?_eq_getElem?, show tk.length - 1 = mp by omega, List.getElem?_eq_getElem (by omega)]
      rfl
    have hla : 0 ≤ lastT tk ∧ lastT tk ≤ now := by
      rw [← hlast]
      exact hbd _ (List.getElem_mem _)
    rw [hlast] at cl
    generalize lastT tk = lt at *
    have ez : (tk.length : Int) - 1 = (mp : Int) := by omega
    have mz : (mp : Int) < (tk.length : Int) := by omega
    have mw : IntKind.i64.wrap (mp : Int) = (mp : Int) := i64_in (by omega) (by omega)
    have ew := wrap_in (x := lt + d.ban) (by omega) (by omega)
    have HEN := hide hen
    have hlz : ¬ (tk.length : Int) < d.lim := hlt
    generalize d.lim = lim at *
    generalize d.ban = ban at *
    generalize d.n = n at *
    clear hi hrow hbd hpk fe hj hlast hen hlt hlen hmp e2
    generalize tk.length = m at *
    go_enter Try.func49, Try.ntmps49
    go_wp2_with fail
    go_quiet (fail)
    go_wp2_with fail
    go_ret
    exact ⟨by rw [HEN.out]; first | rfl | exact congrArg (fun z => Ending.returned (.int .i64 z)) ew, nq, rfl⟩
set_option maxHeartbeats 8000000 in
set_option maxRecDepth 100000 in
set_option linter.unusedSimpArgs false in
set_option linter.unusedVariables false in
theorem rSilent_any {w : World} {S : Nat → Prop} {R : Nat} {d : Dt} (h : RfAt w S R d) {q0 : Nat} (hf : d.upto q0) (hq : q0 ≤ 1000000) (k : Int) :
    Calls Try.prog 41 #[.pointer (some ⟨R, 0, none⟩), .int .i64 k] w fun e w' => e = .returned (.tuple #[.bool (silV d k), .int .i64 (chk1 d.n k)]) ∧ Below w.heap.size w w' := by
  have h0 := h
  obtain ⟨vs, pv, tm, hi, hS⟩ := h
  have KN := known_any hi.blk k
  have c3 := hi.blk.c3
  by_cases hk : 0 ≤ k ∧ k < (d.n : Int)
  · rw [show chk1 d.n k = 0 from if_pos hk] at KN ⊢
    obtain ⟨m, rfl⟩ : ∃ m : Nat, k = (m : Int) := ⟨k.toNat, by omega⟩
    have EN : ∀ q, Calls Try.prog 49 #[.pointer (some ⟨R, 0, none⟩), .int .i64 (m : Int)] (w.drewN q) fun e w' => e = .returned (.int .i64 (d.en (m : Int))) ∧ ∃ p, w' = (w.drewN q).drewN p := fun q => rEnd_any (h0.kp ((Kp.refl w non).drewN q) (fun _ _ f => f)) hf hq m (by omega)
    have HV : Hid (silV d (m : Int) = decide (d.now < d.en (m : Int))) := by
      show _ = _
      unfold silV
      simp [hk.2]
    generalize silV d (m : Int) = sv at *
    generalize d.en (m : Int) = en at *
    generalize d.now = now at *
    have KN := hide KN
    clear hi hf hk h0
    go_enter Try.func41, Try.ntmps41
    go_wp2_with fail
    refine Calls.mono KN.out ?_
    rintro e W1 ⟨rfl, rfl⟩
    go_wp2_with fail
    go_quiet (first | (go_at_call 49; refine Calls.quiet_of (EN _)))
    go_wp2_with fail
    go_ret2
    exact ⟨by rw [HV.out]; rfl, ⟨rfl, rfl, rfl, Nat.le_refl _, fun _ _ => rfl⟩⟩
  · rw [show chk1 d.n k = 68 from if_neg hk] at KN ⊢
    rw [show silV d k = false from decide_eq_false (fun q => hk ⟨q.1, q.2.1⟩)]
    have KN := hide KN
    clear hi hf hk h0
    go_enter Try.func41, Try.ntmps41
    go_wp2_with fail
    refine Calls.mono KN.out ?_
    rintro e W1 ⟨rfl, rfl⟩
    go_wp2_with fail
    go_ret2
    exact ⟨rfl, Below.refl _ _⟩
end Go.Proofs.Ytnegdhnmgkpkjaa
