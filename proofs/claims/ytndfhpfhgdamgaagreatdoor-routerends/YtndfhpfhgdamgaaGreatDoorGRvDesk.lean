import Derived.Test.YtndfhpfhgdamgaaGreatDoorGRuCopyOf
namespace Go.Proofs.YtndfhpfhgdamgaaGreatDoor.Cn
open Go.RowKit
/-- texts, and booleans, as cells -/
def txs (l : List ByteArray) : List Value := l.map fun s => .string s
def bls (l : List Bool) : List Value := l.map fun s => .bool s
theorem txs_len (l : List ByteArray) : (txs l).length = l.length := by simp [txs]
theorem bls_len (l : List Bool) : (bls l).length = l.length := by simp [bls]
theorem txs_at (l : List ByteArray) (i : Nat) (h : i < l.length) : (txs l)[i]? = some (.string l[i]) := by simp [txs, h]
theorem bls_at (l : List Bool) (i : Nat) (h : i < l.length) : (bls l)[i]? = some (.bool l[i]) := by simp [bls, h]
theorem txs_one (l : List ByteArray) : ∀ u ∈ txs l, u.oneCell' = true := fun u hu => by
  obtain ⟨s, _, rfl⟩ := List.mem_map.1 hu
  rfl
theorem bls_one (l : List Bool) : ∀ u ∈ bls l, u.oneCell' = true := fun u hu => by
  obtain ⟨s, _, rfl⟩ := List.mem_map.1 hu
  rfl
theorem tx_infos : (Tryz.prog.info? 9).map (fun i => (i.zero, i.size, i.bytes)) = some (some (.string ⟨#[]⟩), 1, 16) := by kernel_rfl
theorem bl_infos : (Tryz.prog.info? 4).map (fun i => (i.zero, i.size, i.bytes)) = some (some (.bool false), 1, 1) := by kernel_rfl
/-- append(list, s) -/
theorem run_apT {w : World} (ty : TypeId) {base : Nat} {v : Value} {L : List ByteArray} (hv : w.ownsRow base 9 1 v L.length (txs L)) (g : Nat) (m : ByteArray) (hg : w.heap[g]? = some (.cells #[.string m] 9)) (hl : L.length ≤ 8796093022200) (hb : base ≤ w.heap.size) : ∃ v' w', (Builtin.append_ #[56, 56] ty #[v, .slice (some ⟨g, 0, none⟩) 1 1]).run Tryz.prog w = .ok v' w' ∧ w'.ownsRow base 9 1 v' (L.length + 1) (txs (L ++ [m])) ∧ w.grownBy w' v.ownBlock ∧ (v'.ownBlock = v.ownBlock ∨ v'.ownBlock = some w.heap.size) := by
  obtain ⟨i0, hi, hz0, hz1, hz2⟩ := mg_parts tx_infos
  obtain ⟨v', w', hr, h2, h3, _, h5⟩ := run_append_own_at (P := Tryz.prog) w base 56 ty 9 i0 _ 1 16 Tryz.underlying56 hi hz0 hz1 hz2 rfl (by decide) v L.length (txs L) hv ⟨g, 0, none⟩ 1 1 (txs [m]) rfl (by
    intro j u hj
    rw [Addr.add_mid, Nat.zero_add, cell_row hg]
    simpa [txs] using hj) (txs_one _) (by unfold maxLen; omega) (by omega) hb
  rw [show txs L ++ txs [m] = txs (L ++ [m]) by simp [txs]] at h2
  exact ⟨v', w', hr, h2, h3, h5⟩
theorem run_apB {w : World} (ty : TypeId) {base : Nat} {v : Value} {L : List Bool} (hv : w.ownsRow base 4 1 v L.length (bls L)) (g : Nat) (m : Bool) (hg : w.heap[g]? = some (.cells #[.bool m] 4)) (hl : L.length ≤ 1000000000000) (hb : base ≤ w.heap.size) : ∃ v' w', (Builtin.append_ #[61, 61] ty #[v, .slice (some ⟨g, 0, none⟩) 1 1]).run Tryz.prog w = .ok v' w' ∧ w'.ownsRow base 4 1 v' (L.length + 1) (bls (L ++ [m])) ∧ w.grownBy w' v.ownBlock ∧ (v'.ownBlock = v.ownBlock ∨ v'.ownBlock = some w.heap.size) := by
  obtain ⟨i0, hi, hz0, hz1, hz2⟩ := mg_parts bl_infos
  obtain ⟨v', w', hr, h2, h3, _, h5⟩ := run_append_own_at (P := Tryz.prog) w base 61 ty 4 i0 _ 1 1 Tryz.underlying61 hi hz0 hz1 hz2 rfl (by decide) v L.length (bls L) hv ⟨g, 0, none⟩ 1 1 (bls [m]) rfl (by
    intro j u hj
    rw [Addr.add_mid, Nat.zero_add, cell_row hg]
    simpa [bls] using hj) (bls_one _) (by unfold maxLen; omega) (by omega) hb
  rw [show bls L ++ bls [m] = bls (L ++ [m]) by simp [bls]] at h2
  exact ⟨v', w', hr, h2, h3, h5⟩
/-- the law's desk -/
structure Dk where
  went : List Mg
  keys : List ByteArray
  done : List Bool
structure DkX (w : World) (base B R : Nat) (vw vk vd : Value) (k : Dk) : Prop where
  blk : w.heap[B]? = some (.cells #[.pointer (some ⟨R, 0, none⟩), vw, vk, vd] 63)
  ge : base ≤ B
  fw : w.ownsRow base 58 11 vw k.went.length (mgs k.went)
  fk : w.ownsRow base 9 1 vk k.keys.length (txs k.keys)
  fd : w.ownsRow base 4 1 vd k.done.length (bls k.done)
def DkS (B : Nat) (vw vk vd : Value) : Nat → Prop := fun k => k = B ∨ vw.ownBlock = some k ∨ vk.ownBlock = some k ∨ vd.ownBlock = some k
def DkAt (w : World) (base : Nat) (T : Nat → Prop) (B R : Nat) (k : Dk) : Prop := ∃ vw vk vd, DkX w base B R vw vk vd k ∧ ∀ j, T j ↔ DkS B vw vk vd j
section
variable {w w' : World} {base B R : Nat} {vw vk vd : Value} {k : Dk} {T S : Nat → Prop} {c : Cl} {P : List Gp} {v : Rv}
theorem DkX.kind (h : DkX w base B R vw vk vd k) {j : Nat} (hj : DkS B vw vk vd j) : base ≤ j ∧ ∃ A t, w.heap[j]? = some (.cells A t) ∧ (t = 63 ∨ t = 58 ∨ t = 9 ∨ t = 4) := by
  rcases hj with rfl | hj | hj | hj
  · exact ⟨h.ge, _, _, h.blk, Or.inl rfl⟩
  · obtain ⟨h1, cur, h2⟩ := own_cells h.fw hj
    exact ⟨h1, _, _, h2, Or.inr (Or.inl rfl)⟩
  · obtain ⟨h1, cur, h2⟩ := own_cells h.fk hj
    exact ⟨h1, _, _, h2, Or.inr (Or.inr (Or.inl rfl))⟩
  · obtain ⟨h1, cur, h2⟩ := own_cells h.fd hj
    exact ⟨h1, _, _, h2, Or.inr (Or.inr (Or.inr rfl))⟩
theorem DkX.kp (h : DkX w base B R vw vk vd k) {U : Nat → Prop} (hk : Kp w w' U) (hU : ∀ j, DkS B vw vk vd j → ¬ U j) : DkX w' base B R vw vk vd k :=
  ⟨(hk.block _ (blk_lt h.blk) (hU _ (Or.inl rfl))).trans h.blk, h.ge, own_kp h.fw hk (fun j q => hU j (Or.inr (Or.inl q))), own_kp h.fk hk (fun j q => hU j (Or.inr (Or.inr (Or.inl q)))), own_kp h.fd hk (fun j q => hU j (Or.inr (Or.inr (Or.inr q))))⟩
theorem DkAt.kind (h : DkAt w base T B R k) {j : Nat} (hj : T j) : base ≤ j ∧ ∃ A t, w.heap[j]? = some (.cells A t) ∧ (t = 63 ∨ t = 58 ∨ t = 9 ∨ t = 4) := by
  obtain ⟨vw, vk, vd, hx, hT⟩ := h
  exact hx.kind ((hT j).1 hj)
theorem DkAt.kp (h : DkAt w base T B R k) {U : Nat → Prop} (hk : Kp w w' U) (hU : ∀ j, T j → ¬ U j) : DkAt w' base T B R k := by
  obtain ⟨vw, vk, vd, hx, hT⟩ := h
  exact ⟨vw, vk, vd, hx.kp hk (fun j q => hU j ((hT j).2 q)), hT⟩
theorem DkAt.apart {R' : Nat} (h : RtAt w S R' c P v) (hn : DkAt w base T B R k) : ∀ j, T j → ¬ S j := fun j hj hs => by
  obtain ⟨_, A, t, e, ht⟩ := hn.kind hj
  exact h.not e (by rcases ht with rfl | rfl | rfl | rfl <;> decide) hs
theorem DkX.ne (h : DkX w base B R vw vk vd k) : vw.ownBlock ≠ some B ∧ vk.ownBlock ≠ some B ∧ vd.ownBlock ≠ some B := by
  refine ⟨fun e => ?_, fun e => ?_, fun e => ?_⟩
  · obtain ⟨_, cur, h2⟩ := own_cells h.fw e
    have := h.blk.symm.trans h2
    simp at this
  · obtain ⟨_, cur, h2⟩ := own_cells h.fk e
    have := h.blk.symm.trans h2
    simp at this
  · obtain ⟨_, cur, h2⟩ := own_cells h.fd e
    have := h.blk.symm.trans h2
    simp at this
theorem own_ne {b1 b2 n1 n2 s1 s2 : Nat} {t1 t2 : TypeId} {u1 u2 : Value} {x1 x2 : List Value} (h1 : w.ownsRow b1 t1 s1 u1 n1 x1) (h2 : w.ownsRow b2 t2 s2 u2 n2 x2) (ht : t1 ≠ t2) {j : Nat} (e : u1.ownBlock = some j) : u2.ownBlock ≠ some j := fun e' => by
  obtain ⟨c1, a1⟩ := own_typ h1 e
  obtain ⟨c2, a2⟩ := own_typ h2 e'
  have := a1.symm.trans a2
  simp only [Option.some.injEq, Obj.cells.injEq] at this
  exact ht this.2.1
/-- the desk's row went is another, in the blocks it had or new ones -/
theorem DkX.putw (h : DkX w base B R vw vk vd k) {L : List Mg} {w1 : World} {u' : Value} (ho : w1.ownsRow base 58 11 u' L.length (mgs L)) (hg : Kp w w1 (fun j => vw.ownBlock = some j)) (hn : ∀ j, u'.ownBlock = some j → vw.ownBlock = some j ∨ w.heap.size ≤ j) :
    w1.heap[B]? = w.heap[B]? ∧ DkX (w1.setCell ⟨B, 1, none⟩ u') base B R u' vk vd { k with went := L } ∧ Kp w (w1.setCell ⟨B, 1, none⟩ u') (DkS B vw vk vd) ∧ ∀ j, DkS B u' vk vd j → DkS B vw vk vd j ∨ w.heap.size ≤ j := by
  obtain ⟨n1, n2, n3⟩ := h.ne
  have e1 : w1.heap[B]? = w.heap[B]? := hg.block _ (blk_lt h.blk) (fun e => n1 e)
  have b1 := e1.trans h.blk
  have k2 : Kp w1 (w1.setCell ⟨B, 1, none⟩ u') (fun j => j = B) := (Kp.refl w1 (fun j => j = B)).set (Or.inl rfl) _ _
  have hne : u'.ownBlock ≠ some B := fun e => by
    rcases hn B e with q | q
    · exact n1 q
    · have := blk_lt h.blk
      omega
  refine ⟨e1, ⟨?_, h.ge, own_kp ho k2 (fun j e q => hne (q ▸ e)), own_kp (own_kp h.fk hg (fun j e q => own_ne h.fk h.fw (by decide) e q)) k2 (fun j e q => n2 (q ▸ e)), own_kp (own_kp h.fd hg (fun j e q => own_ne h.fd h.fw (by decide) e q)) k2 (fun j e q => n3 (q ▸ e))⟩, (hg.mono (T := DkS B vw vk vd) (fun j q => Or.inr (Or.inl q))).trans k2 (fun j q => Or.inl (Or.inl q)), fun j q => ?_⟩
  · rw [heap_setCell _ _ _ _ _ _ _ b1]; rfl
  · rcases q with q | q | q | q
    · exact Or.inl (Or.inl q)
    · rcases hn j q with r | r
      · exact Or.inl (Or.inr (Or.inl r))
      · exact Or.inr r
    · exact Or.inl (Or.inr (Or.inr (Or.inl q)))
    · exact Or.inl (Or.inr (Or.inr (Or.inr q)))
/-- the desk's row keys is another, in the blocks it had or new ones -/
theorem DkX.putk (h : DkX w base B R vw vk vd k) {L : List ByteArray} {w1 : World} {u' : Value} (ho : w1.ownsRow base 9 1 u' L.length (txs L)) (hg : Kp w w1 (fun j => vk.ownBlock = some j)) (hn : ∀ j, u'.ownBlock = some j → vk.ownBlock = some j ∨ w.heap.size ≤ j) :
    w1.heap[B]? = w.heap[B]? ∧ DkX (w1.setCell ⟨B, 2, none⟩ u') base B R vw u' vd { k with keys := L } ∧ Kp w (w1.setCell ⟨B, 2, none⟩ u') (DkS B vw vk vd) ∧ ∀ j, DkS B vw u' vd j → DkS B vw vk vd j ∨ w.heap.size ≤ j := by
  obtain ⟨n1, n2, n3⟩ := h.ne
  have e1 : w1.heap[B]? = w.heap[B]? := hg.block _ (blk_lt h.blk) (fun e => n2 e)
  have b1 := e1.trans h.blk
  have k2 : Kp w1 (w1.setCell ⟨B, 2, none⟩ u') (fun j => j = B) := (Kp.refl w1 (fun j => j = B)).set (Or.inl rfl) _ _
  have hne : u'.ownBlock ≠ some B := fun e => by
    rcases hn B e with q | q
    · exact n2 q
    · have := blk_lt h.blk
      omega
  refine ⟨e1, ⟨?_, h.ge, own_kp (own_kp h.fw hg (fun j e q => own_ne h.fw h.fk (by decide) e q)) k2 (fun j e q => n1 (q ▸ e)), own_kp ho k2 (fun j e q => hne (q ▸ e)), own_kp (own_kp h.fd hg (fun j e q => own_ne h.fd h.fk (by decide) e q)) k2 (fun j e q => n3 (q ▸ e))⟩, (hg.mono (T := DkS B vw vk vd) (fun j q => Or.inr (Or.inr (Or.inl q)))).trans k2 (fun j q => Or.inl (Or.inl q)), fun j q => ?_⟩
  · rw [heap_setCell _ _ _ _ _ _ _ b1]; rfl
  · rcases q with q | q | q | q
    · exact Or.inl (Or.inl q)
    · exact Or.inl (Or.inr (Or.inl q))
    · rcases hn j q with r | r
      · exact Or.inl (Or.inr (Or.inr (Or.inl r)))
      · exact Or.inr r
    · exact Or.inl (Or.inr (Or.inr (Or.inr q)))
/-- the desk's row done is another, in the blocks it had or new ones -/
theorem DkX.putd (h : DkX w base B R vw vk vd k) {L : List Bool} {w1 : World} {u' : Value} (ho : w1.ownsRow base 4 1 u' L.length (bls L)) (hg : Kp w w1 (fun j => vd.ownBlock = some j)) (hn : ∀ j, u'.ownBlock = some j → vd.ownBlock = some j ∨ w.heap.size ≤ j) :
    w1.heap[B]? = w.heap[B]? ∧ DkX (w1.setCell ⟨B, 3, none⟩ u') base B R vw vk u' { k with done := L } ∧ Kp w (w1.setCell ⟨B, 3, none⟩ u') (DkS B vw vk vd) ∧ ∀ j, DkS B vw vk u' j → DkS B vw vk vd j ∨ w.heap.size ≤ j := by
  obtain ⟨n1, n2, n3⟩ := h.ne
  have e1 : w1.heap[B]? = w.heap[B]? := hg.block _ (blk_lt h.blk) (fun e => n3 e)
  have b1 := e1.trans h.blk
  have k2 : Kp w1 (w1.setCell ⟨B, 3, none⟩ u') (fun j => j = B) := (Kp.refl w1 (fun j => j = B)).set (Or.inl rfl) _ _
  have hne : u'.ownBlock ≠ some B := fun e => by
    rcases hn B e with q | q
    · exact n3 q
    · have := blk_lt h.blk
      omega
  refine ⟨e1, ⟨?_, h.ge, own_kp (own_kp h.fw hg (fun j e q => own_ne h.fw h.fd (by decide) e q)) k2 (fun j e q => n1 (q ▸ e)), own_kp (own_kp h.fk hg (fun j e q => own_ne h.fk h.fd (by decide) e q)) k2 (fun j e q => n2 (q ▸ e)), own_kp ho k2 (fun j e q => hne (q ▸ e))⟩, (hg.mono (T := DkS B vw vk vd) (fun j q => Or.inr (Or.inr (Or.inr q)))).trans k2 (fun j q => Or.inl (Or.inl q)), fun j q => ?_⟩
  · rw [heap_setCell _ _ _ _ _ _ _ b1]; rfl
  · rcases q with q | q | q | q
    · exact Or.inl (Or.inl q)
    · exact Or.inl (Or.inr (Or.inl q))
    · exact Or.inl (Or.inr (Or.inr (Or.inl q)))
    · rcases hn j q with r | r
      · exact Or.inl (Or.inr (Or.inr (Or.inr r)))
      · exact Or.inr r
set_option linter.unusedVariables false in
/-- one mark is set -/
theorem DkX.mark (h : DkX w base B R vw vk vd k) {g cap : Nat} (hv : vd = .slice (some ⟨g, 0, none⟩) k.done.length cap) (t : Nat) (ht : t < k.done.length) : DkX (w.setCell ⟨g, t, none⟩ (.bool true)) base B R vw vk vd { k with done := k.done.set t true } ∧ Kp w (w.setCell ⟨g, t, none⟩ (.bool true)) (fun j => j = g) ∧ g ≠ B := by
  obtain ⟨n1, n2, n3⟩ := h.ne
  have hd := h.fd
  rw [hv] at hd
  have hg : g ≠ B := fun e => n3 (by rw [hv, e]; rfl)
  have k2 : Kp w (w.setCell ⟨g, t, none⟩ (.bool true)) (fun j => j = g) := (Kp.refl w (fun j => j = g)).set (Or.inl rfl) _ _
  have hb : vd.ownBlock = some g := by rw [hv]; rfl
  refine ⟨⟨(k2.block _ (blk_lt h.blk) (fun e => hg e.symm)).trans h.blk, h.ge, own_kp h.fw k2 (fun j e q => own_ne h.fw h.fd (by decide) e (q ▸ hb)), own_kp h.fk k2 (fun j e q => own_ne h.fk h.fd (by decide) e (q ▸ hb)), ?_⟩, k2, hg⟩
  have := (hd.stored t (.bool true)).1
  rw [hv]
  show World.ownsRow _ base 4 1 _ (k.done.set t true).length (bls (k.done.set t true))
  rw [List.length_set, show bls (k.done.set t true) = (bls k.done).set t (.bool true) by simp [bls, List.map_set]]
  exact this
end
end Go.Proofs.YtndfhpfhgdamgaaGreatDoor.Cn
namespace Go.Proofs.YtndfhpfhgdamgaaGreatDoor.Cn
open Go.RowKit
def opens (l : List Bool) : Nat := (l.filter fun b => !b).length
theorem opens_take {l : List Bool} {i : Nat} (h : i < l.length) : opens (l.take (i + 1)) = opens (l.take i) + if l[i] then 0 else 1 := by
  unfold opens
  rw [List.take_succ_eq_append_getElem h, List.filter_append, List.length_append]
  cases l[i] <;> simp
theorem opens_le (l : List Bool) : opens l ≤ l.length := List.length_filter_le _ _
set_option maxHeartbeats 8000000 in
set_option maxRecDepth 100000 in
set_option linter.unusedSimpArgs false in
set_option linter.unusedVariables false in
theorem dopen_any {w : World} {base B R : Nat} {T : Nat → Prop} {k : Dk} (h : DkAt w base T B R k) (hl : k.done.length ≤ 1000000000000) :
    Calls Tryz.prog 20 #[.pointer (some ⟨B, 0, none⟩)] w fun e w' => e = .returned (.int .i64 (opens k.done : Int)) ∧ w = w' := by
  obtain ⟨vw, vk, vd, hx, hT⟩ := h
  obtain ⟨da, dc, hd⟩ := own_sl hx.fd
  subst hd
  have c3 : w.cell? ⟨B, 3, none⟩ = some (.slice da k.done.length dc) := by rw [cell_row hx.blk]; rfl
  have HX := hide hx
  generalize hdl : k.done = L at *
  clear hx hT
  go_enter Tryz.func20, Tryz.ntmps20
  go_wp2_with fail
  go_loopw [3, 4] (fun vn vi wr => w = wr ∧ ∃ (i : Nat), i ≤ L.length ∧ vi = .int .i64 (i : Int) ∧ vn = .int .i64 (opens (L.take i) : Int)) (fun _ vi _ => L.length - (intOf vi).toNat)
  case atStart => exact ⟨rfl, 0, Nat.zero_le _, rfl, rfl⟩
  case round =>
    obtain ⟨rfl, i, hi, rfl, rfl⟩ := hrel
    by_cases hin : i < L.length
    case pos =>
      have hii : (i : Int) < (L.length : Int) := by omega
      have hfd := HX.out.fd
      rw [hdl] at hfd
      obtain ⟨g, gc, hg⟩ := own_g hfd (by omega)
      injection hg with hg _ hgc
      subst hg
      subst hgc
      have cb := hfd.cellAt i (by omega)
      rw [bls_at L i hin] at cb
      have ht := opens_take hin
      have hle := opens_le (L.take i)
      rw [List.length_take] at hle
      generalize opens (L.take i) = o0 at *
      have hw := wrap_in (x := (o0 : Int) + 1) (by omega) (by omega)
      clear hfd
      cases hb : L[i] with
      | true =>
        rw [hb] at cb ht
        rw [if_pos rfl] at ht
        have HT := hide ht
        clear ht
        go_wp2_with fail
        go_roundw
        case rel => exact ⟨by first | trivial | rfl, i + 1, by omega, by go_num, by rw [HT.out]; simp⟩
        case measure => simp [intOf]; omega
      | false =>
        rw [hb] at cb ht
        rw [if_neg (by decide)] at ht
        have HT := hide ht
        clear ht
        go_wp2_with fail
        go_roundw
        case rel => exact ⟨by first | trivial | rfl, i + 1, by omega, by go_num, by rw [HT.out]; simp⟩
        case measure => simp [intOf]; omega
    case neg =>
      obtain rfl : i = L.length := by omega
      rw [List.take_length]
      go_wp2_with fail
      go_ret
      exact ⟨rfl, rfl⟩
end Go.Proofs.YtndfhpfhgdamgaaGreatDoor.Cn
namespace Go.Proofs.YtndfhpfhgdamgaaGreatDoor.Cn
open Go.RowKit
def Dk.mark (k : Dk) (t : Nat) : Dk := { k with done := k.done.set t true }
def Dk.ends (k : Dk) : List Oc → Dk
  | [] => k
  | o :: r => (k.mark (o.tk - 1).toNat).ends r
/-- an outcome that may be -/
def okOc (k : Dk) (o : Oc) : Prop := 1 ≤ o.tk ∧ o.tk ≤ (k.keys.length : Int) ∧ k.done[(o.tk - 1).toNat]? = some false ∧ k.keys[(o.tk - 1).toNat]? = some o.key
def okEnds (k : Dk) : List Oc → Prop
  | [] => True
  | o :: r => okOc k o ∧ okEnds (k.mark (o.tk - 1).toNat) r
theorem ends_app (k : Dk) (a : List Oc) (o : Oc) : k.ends (a ++ [o]) = (k.ends a).mark (o.tk - 1).toNat := by
  induction a generalizing k with
  | nil => rfl
  | cons x r ih => exact ih _
theorem okEnds_at {k : Dk} : ∀ {E : List Oc} {i : Nat} (h : i < E.length), okEnds k E → okOc (k.ends (E.take i)) E[i]
  | [], i, h, _ => by simp at h
  | o :: r, 0, h, hk => hk.1
  | o :: r, i + 1, h, hk => by
    have := okEnds_at (k := k.mark (o.tk - 1).toNat) (E := r) (i := i) (by simpa using h) hk.2
    exact this
theorem ends_keys (k : Dk) : ∀ (E : List Oc), (k.ends E).keys = k.keys ∧ (k.ends E).went = k.went ∧ (k.ends E).done.length = k.done.length
  | [] => ⟨rfl, rfl, rfl⟩
  | o :: r => by
    obtain ⟨a, b, c⟩ := ends_keys (k.mark (o.tk - 1).toNat) r
    refine ⟨a, b, c.trans ?_⟩
    show (k.done.set _ true).length = _
    rw [List.length_set]
theorem oc_range {w : World} {base g cap n : Nat} {L : List Oc} (h : w.ownsRow base 96 6 (.slice (some ⟨g, 0, none⟩) n cap) n (ocs L)) {i : Nat} (hi : i < L.length) (hn : n = L.length) : w.rangeAt g (i * 6) (ocV L[i]).toList := fun j u hj => by
  have hj' := (List.getElem?_eq_some_iff.1 hj).1
  have h6 : (ocV L[i]).toList.length = 6 := rfl
  rw [h6] at hj'
  rw [h.cellAt (i * 6 + j) (by omega), ocs_at L i hi j hj']
  simpa using hj
set_option maxHeartbeats 16000000 in
set_option maxRecDepth 100000 in
set_option linter.unusedSimpArgs false in
set_option linter.unusedVariables false in
theorem ended_any {w : World} {base B R be : Nat} {T : Nat → Prop} {k : Dk} {ve : Value} {E : List Oc} (h : DkAt w base T B R k) (he : w.ownsRow be 96 6 ve E.length (ocs E)) (hk : okEnds k E) (hdl : k.done.length = k.keys.length) (hl : k.keys.length ≤ 1000000000000) (hE : E.length ≤ 1000000) :
    Calls Tryz.prog 45 #[.pointer (some ⟨B, 0, none⟩), ve] w fun e w' => e = .returned (.bool true) ∧ DkAt w' base T B R (k.ends E) ∧ Kp w w' T := by
  obtain ⟨ea, ec, hve⟩ := own_sl he
  subst hve
  have HE := hide he
  have HK := hide hk
  have HD := hide h
  clear he hk h
  go_enter Tryz.func45, Tryz.ntmps45
  go_wp2_with fail
  go_loopw [5, 6] (fun vi _ wr => ∃ (i : Nat), i ≤ E.length ∧ vi = .int .i64 (i : Int) ∧ DkAt wr base T B R (k.ends (E.take i)) ∧ Kp w wr T) (fun vi _ _ => E.length - (intOf vi).toNat)
  case atStart => exact ⟨0, Nat.zero_le _, rfl, HD.out, Kp.refl _ _⟩
  case round =>
    obtain ⟨i, hi, rfl, hR, hKr⟩ := hrel
    have KR := hide hKr
    by_cases hin : i < E.length
    case pos =>
      have hii : (i : Int) < (E.length : Int) := by omega
      have ok := okEnds_at hin HK.out
      obtain ⟨k1, k2, k3⟩ := ends_keys k (E.take i)
      have hTE : ∀ j, (Value.slice ea E.length ec).ownBlock = some j → ¬ T j := fun j q s => by
        obtain ⟨_, A, t, e1, ht⟩ := HD.out.kind s
        obtain ⟨cur, e2⟩ := own_typ HE.out q
        rw [e1] at e2
        simp only [Option.some.injEq, Obj.cells.injEq] at e2
        rw [e2.2.1] at ht
        revert ht
        decide
      have er := own_kp HE.out hKr hTE
      obtain ⟨g, gc, hg⟩ := own_g HE.out (by omega)
      injection hg with hg _ hgc
      subst hg
      subst hgc
      have RG := hide (oc_range er hin rfl)
      have hstep : (k.ends (E.take i)).mark (E[i].tk - 1).toNat = k.ends (E.take (i + 1)) := by rw [List.take_succ_eq_append_getElem hin, ends_app]
      generalize E[i] = oi at *
      generalize hki : k.ends (E.take i) = ki at *
      obtain ⟨o1, o2, o3, o4⟩ := ok
      obtain ⟨vw, vk, vd, hx, hT⟩ := hR
      obtain ⟨da, dc, hvd⟩ := own_sl hx.fd
      obtain ⟨ka, kc, hvk⟩ := own_sl hx.fk
      subst hvd
      subst hvk
      obtain ⟨t, ht⟩ : ∃ t : Nat, oi.tk = (t : Int) + 1 := ⟨(oi.tk - 1).toNat, by omega⟩
      rw [ht] at o1 o2 o3 o4 hstep
      have etn : ((t : Int) + 1 - 1).toNat = t := by omega
      rw [etn] at o3 o4 hstep
      have htd : t < ki.done.length := (List.getElem?_eq_some_iff.1 o3).1
      have htk : t < ki.keys.length := (List.getElem?_eq_some_iff.1 o4).1
      have hdl' : ki.done.length = ki.keys.length := by rw [k3, k1]; exact hdl
      have hkl' : ki.keys.length ≤ 1000000000000 := by rw [k1]; exact hl
      obtain ⟨dg, dgc, hdg⟩ := own_g hx.fd (by omega)
      injection hdg with hdg _ hdgc
      subst hdg
      subst hdgc
      obtain ⟨kg, kgc, hkg⟩ := own_g hx.fk (by omega)
      injection hkg with hkg _ hkgc
      subst hkg
      subst hkgc
      obtain ⟨OB, hOB⟩ : ∃ OB, OB = wr.heap.size := ⟨_, rfl⟩
      obtain ⟨W1, hW1⟩ : ∃ W1, W1 = wr.alloc (.cells (ocV oi) 96) := ⟨_, rfl⟩
      have k1' : Kp wr W1 non := by rw [hW1]; exact (Kp.refl wr non).alloc _
      have O1 : W1.heap[OB]? = some (.cells (ocV oi) 96) := by rw [hW1, hOB]; exact heap_last _ _
      have x1 := hx.kp k1' (fun _ _ f => f)
      have a0 : W1.cell? ⟨OB, 0, none⟩ = some (.int .i64 ((t : Int) + 1)) := by rw [cell_row O1, ← ht]; rfl
      have a1 : W1.cell? ⟨OB, 1, none⟩ = some (.string oi.key) := by rw [cell_row O1]; rfl
      have b2 : W1.cell? ⟨B, 2, none⟩ = some (.slice (some ⟨kg, 0, none⟩) ki.keys.length kc) := by rw [cell_row x1.blk]; rfl
      have b3 : W1.cell? ⟨B, 3, none⟩ = some (.slice (some ⟨dg, 0, none⟩) ki.done.length dc) := by rw [cell_row x1.blk]; rfl
      have cd : W1.cell? ⟨dg, t, none⟩ = some (.bool false) := by
        have h1 := x1.fd.cellAt t (by omega)
        rw [bls_at ki.done t htd] at h1
        rw [h1, (List.getElem?_eq_some_iff.1 o3).2]
      have ck : W1.cell? ⟨kg, t, none⟩ = some (.string oi.key) := by
        have h1 := x1.fk.cellAt t (by omega)
        rw [txs_at ki.keys t htk] at h1
        rw [h1, (List.getElem?_eq_some_iff.1 o4).2]
      have fd := x1.fd.frozenAt t
      have q1 : ¬ ((t : Int) + 1 < 1) := by omega
      have q2 : ¬ ((ki.keys.length : Int) < (t : Int) + 1) := by omega
      have q3 := wrap_in (x := (t : Int) + 1 - 1) (by omega) (by omega)
      have q4 : (t : Int) < (ki.done.length : Int) := by omega
      have q6 : IntKind.i64.wrap (t : Int) = (t : Int) := i64_in (by omega) (by omega)
      have q5 : (t : Int) < (ki.keys.length : Int) := by omega
      have MK : Hid (∀ n, DkX ((W1.drewN n).setCell ⟨dg, t, none⟩ (.bool true)) base B R vw (.slice (some ⟨kg, 0, none⟩) ki.keys.length kc) (.slice (some ⟨dg, 0, none⟩) ki.done.length dc) (ki.mark t) ∧ Kp W1 ((W1.drewN n).setCell ⟨dg, t, none⟩ (.bool true)) (fun j => j = dg)) := fun n => by
        have kd : Kp W1 (W1.drewN n) non := (Kp.refl W1 non).drewN n
        obtain ⟨m1, m2, _⟩ := (x1.kp kd (fun _ _ f => f)).mark rfl t htd
        exact ⟨m1, (kd.mono (T := fun j => j = dg) (fun _ f => f.elim)).trans m2 (fun _ e => Or.inl e)⟩
      have hdB : dg ≠ B := fun e => hx.ne.2.2 (by rw [e]; rfl)
      have hdO : dg ≠ OB := fun e => by
        obtain ⟨cur, hc⟩ := own_typ hx.fd (g := dg) rfl
        have := blk_lt hc
        omega
      have TD : Hid (T dg) := (hT dg).2 (Or.inr (Or.inr (Or.inr rfl)))
      have HT := hide hT
      have KW : Hid (Kp w W1 T) := hKr.trans k1' (fun _ f => f.elim)
      have HST := hide hstep
      have HOB := hide hOB
      have HO1 := hide O1
      have HX1 := hide x1.blk
      generalize oi.key = okey at *
      clear hdl' hx x1 O1 hOB hT hKr k1' o1 o2 o3 o4 hstep hki k1 k2 k3 er hTE
      go_upto_region 5 with (first
        | refine wpList_load_mid rfl 96 (.tmp 15) rfl g (i * 6) rfl (ocV oi).toList _ RG.out Tryz.underlying96 rfl oc_info ?_
        | refine wpList_stR rfl 96 (.tmp 6) (.tmp 16) rfl wr.heap.size rfl (ocV oi) (ocV oc0) rfl _ (heap_last wr _) oc_info rfl (oc_one _) ?_)
      rw [World.setRow_alloc_new, ← hW1, ← HOB.out]
      clear hW1 RG
      go_quiet (fail)
      go_upto_region 7 with fail
      have C0 : Hid ((W1.drewN nq).cell? ⟨B, 3, none⟩ = some (.slice (some ⟨dg, 0, none⟩) ki.done.length dc) ∧ (W1.drewN nq).cell? ⟨OB, 0, none⟩ = some (.int .i64 ((t : Int) + 1))) := ⟨b3, a0⟩
      refine wp_region_held_drew (S := fun X => X.cell? ⟨B, 3, none⟩ = some (.slice (some ⟨dg, 0, none⟩) ki.done.length dc) ∧ X.cell? ⟨OB, 0, none⟩ = some (.int .i64 ((t : Int) + 1))) (by kernel_rfl) C0.out (fun hHeld => ?_)
      refine wpAnyH_take (i := 0) (v := (.pointer (some ⟨B, 0, none⟩))) rfl (by kernel_rfl) (by kernel_rfl) (by kernel_rfl) (fun _ _ _ h => h) (Or.inl ⟨by rfl, ?_⟩) (by assumption) ?_
      · intro w' hSw
        (try dsimp only at hSw)
        go_simp
      (try simp only [Act.put, List.getElem_toArray, List.getElem_cons_zero, List.getElem_cons_succ, List.setIfInBounds_toArray, List.set_cons_zero, List.set_cons_succ])
      refine wpAnyH_take (i := 1) (v := (.pointer (some ⟨B, 0, none⟩))) rfl (by kernel_rfl) (by kernel_rfl) (by kernel_rfl) (fun _ _ _ h => h) (Or.inl ⟨by rfl, ?_⟩) (by assumption) ?_
      · intro w' hSw
        (try dsimp only at hSw)
        go_simp
      (try simp only [Act.put, List.getElem_toArray, List.getElem_cons_zero, List.getElem_cons_succ, List.setIfInBounds_toArray, List.set_cons_zero, List.set_cons_succ])
      refine wpAnyH_take (i := 2) (v := (.pointer (some ⟨B, 3, none⟩))) rfl (by kernel_rfl) (by kernel_rfl) (by kernel_rfl) (fun _ _ _ h => h) (Or.inl ⟨by rfl, ?_⟩) (by assumption) ?_
      · intro w' hSw
        (try dsimp only at hSw)
        go_simp
      (try simp only [Act.put, List.getElem_toArray, List.getElem_cons_zero, List.getElem_cons_succ, List.setIfInBounds_toArray, List.set_cons_zero, List.set_cons_succ])
      refine wpAnyH_take (i := 3) (v := (.slice (some ⟨dg, 0, none⟩) ki.done.length dc)) rfl (by kernel_rfl) (by kernel_rfl) (by kernel_rfl) (fun _ _ _ h => h) (Or.inl ⟨by rfl, ?_⟩) (by assumption) ?_
      · intro w' hSw
        (try dsimp only at hSw)
        (have hs1 := hSw.1; go_simp)
      (try simp only [Act.put, List.getElem_toArray, List.getElem_cons_zero, List.getElem_cons_succ, List.setIfInBounds_toArray, List.set_cons_zero, List.set_cons_succ])
      refine wpAnyH_take (i := 4) (v := (.pointer (some ⟨OB, 0, none⟩))) rfl (by kernel_rfl) (by kernel_rfl) (by kernel_rfl) (fun _ _ _ h => h) (Or.inl ⟨by rfl, ?_⟩) (by assumption) ?_
      · intro w' hSw
        (try dsimp only at hSw)
        go_simp
      (try simp only [Act.put, List.getElem_toArray, List.getElem_cons_zero, List.getElem_cons_succ, List.setIfInBounds_toArray, List.set_cons_zero, List.set_cons_succ])
      refine wpAnyH_take (i := 5) (v := (.int .i64 ((t : Int) + 1))) rfl (by kernel_rfl) (by kernel_rfl) (by kernel_rfl) (fun _ _ _ h => h) (Or.inl ⟨by rfl, ?_⟩) (by assumption) ?_
      · intro w' hSw
        (try dsimp only at hSw)
        (have hs2 := hSw.2; go_simp)
      (try simp only [Act.put, List.getElem_toArray, List.getElem_cons_zero, List.getElem_cons_succ, List.setIfInBounds_toArray, List.set_cons_zero, List.set_cons_succ])
      refine wpAnyH_take (i := 6) (v := (.int .i64 (t : Int))) rfl (by kernel_rfl) (by kernel_rfl) (by kernel_rfl) (fun _ _ _ h => h) (Or.inl ⟨by rfl, ?_⟩) (by assumption) ?_
      · intro w' hSw
        (try dsimp only at hSw)
        go_simp
      (try simp only [Act.put, List.getElem_toArray, List.getElem_cons_zero, List.getElem_cons_succ, List.setIfInBounds_toArray, List.set_cons_zero, List.set_cons_succ])
      refine wpAnyH_take (i := 7) (v := (.pointer (some ⟨dg, t, none⟩))) rfl (by kernel_rfl) (by kernel_rfl) (by kernel_rfl) (fun _ _ _ h => h) (Or.inl ⟨by rfl, ?_⟩) (by assumption) ?_
      · intro w' hSw
        (try dsimp only at hSw)
        go_simp
      (try simp only [Act.put, List.getElem_toArray, List.getElem_cons_zero, List.getElem_cons_succ, List.setIfInBounds_toArray, List.set_cons_zero, List.set_cons_succ])
      refine wpAnyH_ready (rs := [8]) (by kernel_rfl) (by simp) ?_
      refine AllReadyH.cons rfl (fun K hK => ?_) AllReadyH.nil
      go_simp
      have M3 := MK.out (nq + 1)
      obtain ⟨W3, hW3⟩ : ∃ W3, W3 = (W1.drewN (nq + 1)).setCell ⟨dg, t, none⟩ (.bool true) := ⟨_, rfl⟩
      rw [← hW3] at M3
      have X3 := hide M3.1
      have K3 := hide M3.2
      have C3 : Hid (W3.cell? ⟨B, 3, none⟩ = some (.slice (some ⟨dg, 0, none⟩) ki.done.length dc) ∧ W3.cell? ⟨OB, 0, none⟩ = some (.int .i64 ((t : Int) + 1))) := ⟨(K3.out.cell (blk_lt HX1.out) (fun e => hdB e.symm)).trans b3, (K3.out.cell (blk_lt HO1.out) (fun e => hdO e.symm)).trans a0⟩
      clear M3 MK
      rw [← hW3]
      clear hW3
      refine hK.out _ _ (C3.out) (fun hHeld => ?_)
      clear hK
      (try simp only [Act.put, List.setIfInBounds_toArray, List.set_cons_zero, List.set_cons_succ])
      refine wpAnyH_done (by kernel_rfl) ?_ _
      go_wp2_with fail
      go_roundw
      case rel => exact ⟨i + 1, by omega, by go_num, by rw [← HST.out]; exact ⟨_, _, _, X3.out, HT.out⟩, KW.out.trans K3.out (fun j e => Or.inl (by rw [e]; exact TD.out))⟩
      case measure => simp [intOf]; omega
    case neg =>
      obtain rfl : i = E.length := by omega
      have HR := hide hR
      clear hR hKr
      rw [List.take_length] at HR
      go_wp2_with fail
      go_ret
      exact ⟨rfl, HR.out, KR.out⟩
end Go.Proofs.YtndfhpfhgdamgaaGreatDoor.Cn
