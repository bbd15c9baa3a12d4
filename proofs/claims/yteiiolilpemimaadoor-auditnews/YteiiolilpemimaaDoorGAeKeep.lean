import Derived.Test.YteiiolilpemimaaDoorGGhHold
import Derived.Test.YteiiolilpemimaaDoorGGcApp
import Derived.Test.YteiiolilpemimaaDoorGGcDoc
namespace Go.Proofs.YteiiolilpemimaaDoor.Cn
open Go.RowKit
/-- an auditor behind i steps -/
structure Kd (st : ByteArray) (x : Nat → Int) (ns : List ND) (n i : Nat) (v : Au) : Prop where
  ok : Aok v n
  fr : Fr v
  lm : v.lm = x 15
  rs : v.rs = x 14
  len : v.hs.length = ns.length
  sl : ∀ (j : Nat) (k : Ho), v.hs[j]? = some k → k.sl = hdS st x ns (j : Int)
  num : 0 ≤ v.num ∧ v.num ≤ (i : Int)
  now : v.now ≤ (i : Int)
section
variable {st : ByteArray} {x : Nat → Int} {ns : List ND} {n i : Nat} {v v' : Au}
theorem Kd.more (h : Kd st x ns n i v) {i' : Nat} (hi : i ≤ i') : Kd st x ns n i' v := ⟨h.ok, h.fr, h.lm, h.rs, h.len, h.sl, ⟨h.num.1, by have := h.num.2; omega⟩, by have := h.now; omega⟩
theorem Kd.setk (h : Kd st x ns n i v) {q : Nat} {k k' : Ho} (hk : v.hs[q]? = some k) (e1 : k'.sl = k.sl) (hf : k'.stt = 1 → v.now - k'.ti < v.rs) (he : v'.hs = v.hs.set q k') (ok : Aok v' n) (e2 : v'.lm = v.lm) (e3 : v'.rs = v.rs) (e4 : v'.num = v.num) (e5 : v'.now = v.now) : Kd st x ns n i v' := by
  have hq := (List.getElem?_eq_some_iff.1 hk).1
  refine ⟨ok, fun y hy h1 => ?_, e2.trans h.lm, e3.trans h.rs, by rw [he, List.length_set]; exact h.len, fun j y hy => ?_, by rw [e4]; exact h.num, by rw [e5]; exact h.now⟩
  · rw [he] at hy
    rw [e5, e3]
    rcases List.mem_or_eq_of_mem_set hy with q' | q'
    · exact h.fr y q' h1
    · rw [q'] at h1 ⊢
      exact hf h1
  · rw [he] at hy
    by_cases hj : j = q
    · subst hj
      rw [List.getElem?_set_self hq] at hy
      rw [← Option.some.inj hy, e1]
      exact h.sl j k hk
    · rw [List.getElem?_set_ne (fun e => hj e.symm)] at hy
      exact h.sl j y hy
theorem Kd.left (h : Kd st x ns n i v) {m : Nat} (hl : Left m v v') : Kd st x ns n i v' := by
  obtain ⟨e1, e2, e3, e4, e5, e6⟩ := left_hs hl
  exact ⟨h.ok.left hl, fun y hy h1 => by rw [e1] at hy; rw [e4, e3]; exact h.fr y hy h1, e2.trans h.lm, e3.trans h.rs, by rw [e1]; exact h.len, fun j y hy => by rw [e1] at hy; exact h.sl j y hy, by rw [e6]; exact h.num, by rw [e4]; exact h.now⟩
theorem Kd.take (h : Kd st x ns n i v) {m : Mg} {L : List Mg} (ht : TakeR n v m L v') : Kd st x ns n i v' := by
  have ok' := h.ok.take ht
  have hrs := h.ok.rs
  rcases ht with ⟨_, _, rfl⟩ | ⟨_, q, k, s, _, hk, hs, hsl, _, hr⟩
  · exact h
  · have hm := List.mem_of_getElem? hk
    have hp := (List.getElem?_eq_some_iff.1 hsl).1
    have hne : k.sl ≠ [] := fun e => by rw [e] at hp; simp at hp
    rcases hr with ⟨_, _, hl⟩ | ⟨_, ⟨s', hs', _, rfl⟩ | ⟨_, _, hl⟩⟩
    · exact (h.setk (v' := v.put q k 2) (k' := { k with stt := 2 }) hk rfl (fun e => absurd e (show ¬ (2 : Int) = 1 by decide)) rfl (h.ok.putt hm 2 (Or.inr ⟨rfl, hne⟩)) rfl rfl rfl rfl).left hl
    · exact h.setk (k' := askH k (k.pl + 1) v.now) hk rfl (fun _ => by show v.now - v.now < v.rs; omega) rfl ok' rfl rfl rfl rfl
    · exact (h.setk (v' := (v.hrd s m).put q k 0) (k' := { k with stt := 0 }) hk rfl (fun e => absurd e (show ¬ (0 : Int) = 1 by decide)) rfl (Aok.putt (v := v.hrd s m) (h.ok.same rfl rfl rfl rfl (Int.le_refl _)) hm 0 (Or.inl rfl)) rfl rfl rfl rfl).left hl
theorem beg_at (v : Au) (j : Nat) : (begHs v v.hs.length)[j]? = (v.hs[j]?).map (begH v.now) := by
  unfold begHs
  rw [List.take_length, List.drop_length, List.append_nil, List.getElem?_map]
theorem Kd.bg (h : Kd st x ns n i v) (ver : Int) : Kd st x ns n (i + 1) (v.bg ver v.hs.length) := by
  have hrs := h.ok.rs
  refine ⟨h.ok.bg ver (Nat.le_refl _), fun y hy h1 => ?_, h.lm, h.rs, (begHs_len v _ (Nat.le_refl _)).trans h.len, fun j y hy => ?_, ⟨by show 0 ≤ v.num + 1; have := h.num.1; omega, by show v.num + 1 ≤ _; have := h.num.2; omega⟩, by show v.now ≤ _; have := h.now; omega⟩
  · show v.now - y.ti < v.rs
    have hy' : y ∈ begHs v v.hs.length := hy
    obtain ⟨j, hj, e⟩ := List.getElem_of_mem hy'
    have z := beg_at v j
    rw [List.getElem?_eq_getElem hj, e] at z
    cases hv : v.hs[j]? with
    | none => rw [hv] at z; simp at z
    | some k =>
      rw [hv] at z
      simp only [Option.map_some, Option.some.injEq] at z
      unfold begH at z
      split at z
      · rw [z] at h1 ⊢
        exact h.fr k (List.mem_of_getElem? hv) h1
      · rw [z]
        show v.now - v.now < v.rs
        omega
  · have hy' : (begHs v v.hs.length)[j]? = some y := hy
    rw [beg_at] at hy'
    cases hv : v.hs[j]? with
    | none => rw [hv] at hy'; simp at hy'
    | some k =>
      rw [hv] at hy'
      simp only [Option.map_some, Option.some.injEq] at hy'
      rw [← hy', ← h.sl j k hv]
      unfold begH
      split <;> rfl
theorem Kd.beg (h : Kd st x ns n i v) {ver er : Int} {L : List Mg} (hb : BegR v ver L er v') : Kd st x ns n (i + 1) v' := by
  rcases hb with ⟨_, _, _, rfl⟩ | ⟨_, _, _, _, rfl⟩ | ⟨_, _, _, _, rfl⟩
  · exact h.more (by omega)
  · exact h.more (by omega)
  · exact h.bg ver
theorem Kd.tick (h : Kd st x ns n i v) {L : List Mg} (ht : TickR n v L v') : Kd st x ns n (i + 1) v' := by
  obtain ⟨e1, e2, e3, e4⟩ := tick_keep ht
  have eh := tick_hs ht
  refine ⟨h.ok.tick ht, tick_fr ht h.ok h.fr, e1.trans h.lm, e2.trans h.rs, by rw [eh, List.length_map]; exact h.len, fun j y hy => ?_, by rw [e4]; exact ⟨h.num.1, by have := h.num.2; omega⟩, by rw [e3]; have := h.now; omega⟩
  rw [eh, List.getElem?_map] at hy
  cases hv : v.hs[j]? with
  | none => rw [hv] at hy; simp at hy
  | some k =>
    rw [hv] at hy
    simp only [Option.map_some, Option.some.injEq] at hy
    rw [← hy, tk_sl]
    exact h.sl j k hv
/-- a new audit -/
theorem bg_un (_h : Kd st x ns n i v) (ver : Int) (hb : busyL v.hs = false) : ∀ k ∈ (v.bg ver v.hs.length).hs, (k.sl = [] → k.stt ≠ 1) ∧ (k.sl ≠ [] → k.stt = 1 ∧ rm (v.bg ver v.hs.length) k = v.lm * v.rs) := by
  intro y hy
  have hy' : y ∈ begHs v v.hs.length := hy
  obtain ⟨j, hj, e⟩ := List.getElem_of_mem hy'
  have z := beg_at v j
  rw [List.getElem?_eq_getElem hj, e] at z
  cases hv : v.hs[j]? with
  | none => rw [hv] at z; simp at z
  | some k =>
    rw [hv] at z
    simp only [Option.map_some, Option.some.injEq] at z
    have hn : k.stt ≠ 1 := fun e1 => by
      unfold busyL at hb
      rw [List.any_eq_false] at hb
      exact hb k (List.mem_of_getElem? hv) (by simp [e1])
    unfold begH at z
    split at z
    · rename_i hs
      rw [z]
      exact ⟨fun _ => hn, fun q => absurd hs q⟩
    · rename_i hs
      rw [z]
      refine ⟨fun q => absurd q hs, fun _ => ⟨rfl, ?_⟩⟩
      unfold rm
      show (v.lm - 1) * v.rs + (v.rs - (v.now - v.now)) = _
      rw [Int.sub_mul, Int.one_mul]
      omega
theorem bg_Un (h : Kd st x ns n i v) (ver : Int) (hb : busyL v.hs = false) : Un (v.bg ver v.hs.length) (v.lm * v.rs) := fun k hk => by
  obtain ⟨a, b⟩ := bg_un h ver hb k hk
  have z := (h.ok.bg ver (Nat.le_refl _)).hk k hk
  exact ⟨z.em, b⟩
end
/-- a new auditor -/
theorem NewV.kd {st : ByteArray} {x : Nat → Int} {ns : List ND} {v : Au} (h : NewV st x ns v) (he : errP st x ns = 0) : Kd st x ns (x 0).toNat 0 v := by
  have z := nfP_len (errP_ok he).2
  have l0 : 1 ≤ x 0 ∧ x 0 ≤ 16 := sfP_lim (errP_ok he).1 0 (by omega)
  have l14 : 1 ≤ x 14 ∧ x 14 ≤ 1024 := sfP_lim (errP_ok he).1 14 (by omega)
  have l15 : 1 ≤ x 15 ∧ x 15 ≤ 64 := sfP_lim (errP_ok he).1 15 (by omega)
  obtain ⟨z1, z2, z3, z4, z5⟩ := h.z
  have hk : ∀ k ∈ v.hs, ∃ j : Nat, k.sl = hdS st x ns (j : Int) ∧ k.stt = 0 ∧ k.pl = 0 ∧ k.tm = 0 ∧ k.ti = 0 := fun k hk => by
    obtain ⟨j, hj, e⟩ := List.getElem_of_mem hk
    exact ⟨j, h.hs j k (by rw [← e]; exact List.getElem?_eq_getElem hj)⟩
  have hp : ptN ns ≤ 64 := (errP_all he).2.2.2.1.p2
  refine ⟨⟨by rw [h.len]; omega, by rw [h.len]; exact z.2, by rw [h.rp]; omega, by omega, by rw [h.lm]; omega, by rw [h.rs]; omega, fun k hm => ?_⟩, fun k hm h1 => ?_, h.lm, h.rs, h.len, fun j k hj => (h.hs j k hj).1, by rw [z2]; exact ⟨Int.le_refl _, Int.le_refl _⟩, by rw [z1]; exact Int.le_refl _⟩
  · obtain ⟨j, a, b, c, d, e⟩ := hk k hm
    have hsl : ∀ s ∈ k.sl, slOk s := fun s hs => by
      rw [a] at hs
      unfold hdS at hs
      split at hs
      · have := hdL_mem l0.2 hs
        exact ⟨by omega, this.2⟩
      · simp at hs
    have hln : k.sl.length ≤ 64 := by
      rw [a]
      unfold hdS
      split
      · exact Nat.le_trans (hdL_len _ _ _ _) hp
      · simp
    exact ⟨fun q => by omega, hln, hsl, fun q => by omega, by rw [e, z1]; exact ⟨Int.le_refl _, Int.le_refl _⟩, Or.inl b, fun _ => b⟩
  · obtain ⟨j, a, b, c, d, e⟩ := hk k hm
    omega
/-- what an ended audit was told is forgotten -/
def Tl0 (v : Au) : Prop := busyL v.hs = false → v.told = []
theorem tl_left {n : Nat} {v v' : Au} (h : Left n v v') : Tl0 v' := fun hb => by
  rcases left_end h with ⟨q, _⟩ | q
  · rw [q] at hb
    exact absurd hb (by decide)
  · exact q.tl
theorem busy_at {v : Au} {q : Nat} {k : Ho} (hk : v.hs[q]? = some k) (h1 : k.stt = 1) : busyL v.hs = true := by
  unfold busyL
  rw [List.any_eq_true]
  exact ⟨k, List.mem_of_getElem? hk, by simp [h1]⟩
theorem tl_take {n : Nat} {v v' : Au} {m : Mg} {L : List Mg} (h : Tl0 v) (ht : TakeR n v m L v') : Tl0 v' := by
  rcases ht with ⟨_, _, rfl⟩ | ⟨_, q, k, s, _, hk, hs, hsl, _, hr⟩
  · exact h
  · rcases hr with ⟨_, _, hl⟩ | ⟨_, ⟨s', hs', _, rfl⟩ | ⟨_, _, hl⟩⟩
    · exact tl_left hl
    · intro hb
      have hq := (List.getElem?_eq_some_iff.1 hk).1
      have : busyL ((v.hrd s m).ask q k (k.pl + 1)).hs = true := busy_at (q := q) (k := askH k (k.pl + 1) v.now) (by show (v.hs.set q _)[q]? = _; rw [List.getElem?_set_self hq]; rfl) rfl
      rw [this] at hb
      exact absurd hb (by decide)
    · exact tl_left hl
theorem tl_beg {v v' : Au} {ver er : Int} {L : List Mg} (h : Tl0 v) (hb : BegR v ver L er v') : Tl0 v' := by
  rcases hb with ⟨_, _, _, rfl⟩ | ⟨_, _, _, _, rfl⟩ | ⟨q, _, _, _, rfl⟩
  · exact h
  · exact h
  · exact fun _ => h q
theorem tick_idle {n : Nat} {v v' : Au} {L : List Mg} (hb : busyL v.hs = false) (ht : TickR n v L v') : v' = v.tck := by
  have e : dueQ v.tck = [] := by
    refine List.eq_nil_iff_forall_not_mem.2 (fun q hq => ?_)
    obtain ⟨k, hk, h1, _⟩ := due_one hq
    rw [busy_at (v := v) hk h1] at hb
    exact absurd hb (by decide)
  unfold TickR at ht
  rw [e] at ht
  generalize hq : ([] : List Nat) = qs at ht
  cases ht with
  | nil => rfl
  | snoc a b => simp at hq
theorem tl_tick {n : Nat} {v v' : Au} {L : List Mg} (h : Tl0 v) (ht : TickR n v L v') : Tl0 v' := fun hb => by
  cases hv : busyL v.hs with
  | true =>
    rcases tick_ends ht hv with ⟨q, _⟩ | q
    · rw [q] at hb
      exact absurd hb (by decide)
    · exact q.tl
  | false =>
    rw [tick_idle hv ht]
    exact h hv
/-- some node holds something: it is asked -/
theorem beg_pos {v : Au} {ver : Int} {i j : Nat} {k : Ho} (hj : j < i) (hk : v.hs[j]? = some k) (hs : k.sl ≠ []) : 0 < (begL v ver i).length := by
  induction i with
  | zero => omega
  | succ i ih =>
    by_cases e : j = i
    · subst e
      cases hsl : k.sl with
      | nil => exact absurd hsl hs
      | cons s r =>
        have h0 : k.sl[0]? = some s := by rw [hsl]; rfl
        simp only [begL, hk, Option.bind_some, h0]
        simp
    · have := ih (by omega)
      unfold begL
      split
      · rw [List.length_append]; omega
      · exact this
theorem un_busy {v : Au} {M : Int} {j : Nat} {k : Ho} (hu : Un v M) (hk : v.hs[j]? = some k) (hs : k.sl ≠ []) : busyL v.hs = true := busy_at hk ((hu k (List.mem_of_getElem? hk)).2 hs).1
end Go.Proofs.YteiiolilpemimaaDoor.Cn
namespace Go.Proofs.YteiiolilpemimaaDoor.Cn
open Go.RowKit
theorem wpList_apIB {w : World} {ops : Array Oper} {rest : List Oper} {o : Oper} {a : Act} {Q : Exit → Act → World → Prop} (hgd : o.guard = none) (x y : Operand) (ho : o.op = .call { callee := .builtin .append, args := #[x, y], argTypes := #[26, 26] }) (base : Nat) (v : Value) (n : Nat) (L : List Int) (hx : a.eval x = v) (hv : w.ownsRow base 3 1 v n (ints L)) (g : Nat) (m : Int) (hy : a.eval y = .slice (some ⟨g, 0, none⟩) 1 1) (hg : w.heap[g]? = some (.cells #[.int .i64 m] 3)) (hl : n < 17592186043904) (hb : base ≤ w.heap.size)
    (h : ∀ v' w', w'.ownsRow base 3 1 v' (n + 1) (ints (L ++ [m])) → w.grownBy w' v.ownBlock → (v'.ownBlock = v.ownBlock ∨ v'.ownBlock = some w.heap.size) → wpList Tryd.prog ops Q rest (a.put o.dst v') w') : wpList Tryd.prog ops Q (o :: rest) a w := by
  obtain ⟨i0, hi, hz0, hz1, hz2⟩ := info_parts int_infos
  refine wpList_append_own_at _ hgd _ _ 26 ho base 3 i0 _ 1 8 Tryd.underlying26 hi hz0 hz1 hz2 rfl (by decide) _ _ _ hx hv ⟨g, 0, none⟩ 1 1 (ints [m]) hy rfl ?_ (ints_one _) (by unfold maxLen; omega) (by omega) hb ?_
  · intro j u hj
    rw [Addr.add_mid, Nat.zero_add, cell_row hg]
    simpa [ints] using hj
  · intro v' w' h1 h2 _ h4
    rw [← ints_append] at h1
    exact h v' w' h1 h2 h4
set_option maxHeartbeats 16000000 in
set_option maxRecDepth 100000 in
set_option linter.unusedSimpArgs false in
set_option linter.unusedVariables false in
theorem twin19_any (N : Nat) (w : World) (st : ByteArray) (x : Nat → Int) (ao : Option Addr) (b o cap : Nat) (pv : Nat → Value) (ns : List ND) (h : NsAt N w ao b o pv ns) (hN : N ≤ w.heap.size) :
    Calls Tryd.prog 7 #[.agg (clA st x (.slice ao ns.length cap))] w fun e w' => ∃ vl zs, e = .returned (.agg (clA st x vl)) ∧ zs.length = ns.length ∧ Tw (w.heap.size + 2) w' ns vl zs ∧ Below w.heap.size w w' := by
  have hps : ∀ (q : Nat) (hq : q < ns.length), ns[q].ps.length ≤ 17592186043904 := fun q hq => by
    obtain ⟨_, _, _, _, _, hp⟩ := h.ps q hq
    exact hp.len
  have hns := h.len
  obtain ⟨W0, hW0⟩ : ∃ W0, W0 = (w.alloc (.cells (clA st x (.slice ao ns.length cap)) 24)).alloc (.cells (clA ⟨#[]⟩ zx (.slice none 0 0)) 24) := ⟨_, rfl⟩
  have B0 : Hid (Below w.heap.size w W0) := by rw [hW0]; exact ((Below.refl _ _).alloc (Nat.le_refl _) _).alloc (by simp) _
  have C0 : Hid (ClAt W0 w.heap.size st x (.slice ao ns.length cap)) := by rw [hW0]; exact (new_cl _ _ _ _).below ((Below.refl _ _).alloc (Nat.le_refl _) _)
  have R0 : Hid (ClAt W0 (w.heap.size + 1) ⟨#[]⟩ zx (.slice none 0 0)) := by
    rw [hW0]
    have := new_cl (w.alloc (.cells (clA st x (.slice ao ns.length cap)) 24)) ⟨#[]⟩ zx (.slice none 0 0)
    simp only [World.size_alloc] at this
    exact this
  have s0 : Hid (W0.heap.size = w.heap.size + 2) := by rw [hW0]; show _ = _; simp
  have HN := hide h
  have hlen := h.len
  clear h
  obtain ⟨i0, hi0, hz0, hz1, hz2⟩ := YteiiolilpemimaaDoor.info_parts infoNd
  have HI : Hid (Tryd.prog.info? 78 = some i0 ∧ i0.zero = some (.agg #[.int .i64 0, .slice none 0 0]) ∧ i0.size = 2 ∧ i0.bytes = 32) := ⟨hi0, hz0, hz1, hz2⟩
  clear hi0 hz0 hz1 hz2
  go_enter Tryd.func7, Tryd.ntmps7
  go_upto_region 1 with fail
  rw [show (w.alloc (.cells (clA st x (.slice ao ns.length cap)) 24)).alloc (.cells #[.string ⟨#[]⟩, .int .i64 0, .int .i64 0, .int .i64 0, .int .i64 0, .int .i64 0, .int .i64 0, .int .i64 0, .int .i64 0, .int .i64 0, .int .i64 0, .int .i64 0, .int .i64 0, .int .i64 0, .int .i64 0, .int .i64 0, .int .i64 0, .int .i64 0, .int .i64 0, .int .i64 0, .int .i64 0, .int .i64 0, .slice none 0 0] 24) = W0 from hW0.symm]
  clear hW0
  go_wp2_with fail
  go_loopw [3, 4, 5, 6] (fun vl vi _ _ wr => ∃ (zs : List (Int × Value)), zs.length ≤ ns.length ∧ vi = .int .i64 (zs.length : Int) ∧ Tw W0.heap.size wr ns vl zs ∧ Below W0.heap.size W0 wr) (fun _ vi _ _ _ => ns.length - (intOf vi).toNat)
  case atStart => exact ⟨[], Nat.zero_le _, rfl, ⟨World.ownsRow_nil _ _ _ _, fun q hq => absurd hq (Nat.not_lt_zero _), fun q hq => absurd hq (Nat.not_lt_zero _)⟩, Below.refl _ _⟩
  case round =>
    obtain ⟨zs, hq, rfl, hT, hB⟩ := hrel
    have HT := hide hT
    have HB := hide hB
    clear hT hB
    obtain ⟨ba, cp, hv⟩ := own_sl HT.out.row
    subst hv
    by_cases hql : zs.length < ns.length
    case pos =>
      have hao := HN.out.at0 (by omega)
      subst hao
      have hqi : (zs.length : Int) < (ns.length : Int) := by omega
      obtain ⟨pa, pb, po, pc, hpv, hp⟩ := HN.out.ps zs.length hql
      have P0 := hide hp
      have hpl := hps zs.length hql
      have CC : Hid (∀ Y, Below W0.heap.size W0 Y → Y.cell? ⟨w.heap.size, 22, none⟩ = some (.slice (some ⟨b, o, none⟩) ns.length cap) ∧ Y.cell? ⟨b, o + zs.length * 2, none⟩ = some (.int .i64 ns[zs.length].z) ∧ Y.cell? ⟨b, o + zs.length * 2 + 1, none⟩ = some (.slice pa ns[zs.length].ps.length pc)) := fun Y hY => by
        have hN0 := HN.out.below ((B0.out.trans (hY.mono B0.out.size)).mono hN)
        refine ⟨(C0.out.below hY).nv, hN0.cz _ hql, ?_⟩
        rw [← hpv]
        exact hN0.cp _ hql
      have PP : Hid (∀ Y, Below W0.heap.size W0 Y → PsAt N Y pa pb po ns[zs.length].ps) := fun Y hY => P0.out.below ((B0.out.trans (hY.mono B0.out.size)).mono hN)
      clear hpv hp P0
      have TS := hide (fun X1 X3 vl' v1 => HT.out.step (X1 := X1) (X3 := X3) (vl' := vl') (v1 := v1) hql)
      have nvw := (CC.out _ HB.out).1
      have hnn : ns.length ≤ 4398046510976 := hlen
      generalize hzz : ns[zs.length].z = z at *
      generalize hpp : ns[zs.length].ps = ps at *
      clear hzz hpp
      go_wp2_with fail
      clear nvw
      generalize wr = wo at *
      go_loopw [5, 6] (fun v5 vk wr => ∃ (j : Nat) (a5 : Option Addr) (c5 : Nat) (QQ : List Int), j ≤ ps.length ∧ vk = .int .i64 (j : Int) ∧ QQ = ps.take j ∧ v5 = .slice a5 QQ.length c5 ∧ wr.ownsRow W0.heap.size 3 1 (.slice a5 QQ.length c5) QQ.length (ints QQ) ∧ (∀ k, (Value.slice a5 QQ.length c5).ownBlock = some k → wo.heap.size ≤ k) ∧ Kp wo wr non) (fun _ vk _ => ps.length - (intOf vk).toNat)
      case atStart => exact ⟨0, none, 0, [], Nat.zero_le _, rfl, rfl, rfl, World.ownsRow_nil _ _ _ _, fun k e => by simp [Value.ownBlock] at e, Kp.refl _ _⟩
      case round =>
        obtain ⟨j, a5, c5, QQ, hj, rfl, hQ, rfl, ho, hge, hk⟩ := hrel
        have HQ := hide hQ
        have HO := hide ho
        have HGE := hide hge
        have HK := hide hk
        have bq : Below W0.heap.size W0 wr := HB.out.trans (hk.below.mono HB.out.size)
        obtain ⟨y1, y2, y3⟩ := CC.out wr bq
        have PQ := PP.out wr bq
        have BQ := hide bq
        clear hQ ho hge hk bq
        by_cases hjl : j < ps.length
        case pos =>
          have hji : (j : Int) < (ps.length : Int) := by omega
          obtain rfl := PQ.at0 (by omega)
          have cj := PQ.c j hjl
          have hQl : QQ.length < 17592186043904 := by
            rw [HQ.out, List.length_take]
            omega
          have HQ1 : Hid (QQ ++ [ps[j]] = ps.take (j + 1)) := by show _ = _; rw [HQ.out, List.take_succ_eq_append_getElem hjl]
          generalize ps[j] = pj at *
          obtain ⟨W4, hW4⟩ : ∃ W4, W4 = wr.alloc (.cells #[.int .i64 pj] 3) := ⟨_, rfl⟩
          have k4 : Kp wr W4 non := by rw [hW4]; exact (Kp.refl wr non).alloc _
          have GG : Hid (W4.heap[wr.heap.size]? = some (.cells #[.int .i64 pj] 3)) := by rw [hW4]; exact heap_last _ _
          have O4 := hide (own_kp HO.out k4 (fun _ _ f => f))
          have K4 : Hid (Kp wo W4 non) := HK.out.trans k4 (fun _ f => f.elim)
          have hz4 : Hid (W0.heap.size ≤ W4.heap.size ∧ wo.heap.size ≤ W4.heap.size) := ⟨Nat.le_trans BQ.out.size k4.size, K4.out.size⟩
          clear k4 PQ
          go_wp2_with (at_builtin; rw [← hW4]; refine wpList_apIB rfl (.tmp 25) (.tmp 35) rfl W0.heap.size _ QQ.length QQ rfl O4.out wr.heap.size pj rfl GG.out hQl hz4.out.1 ?_; intro v' w' o2 g2 n2; have O5 := hide o2; have KG := hide (Kp.of_grown g2); have N5 := hide n2; clear o2 g2 n2)
          obtain ⟨a6, c6, rfl⟩ := own_sl O5.out
          have K5 : Hid (Kp wo w' non) := K4.out.trans KG.out (fun k e => Or.inr (HGE.out k e.symm))
          have GE5 : Hid (∀ k, (Value.slice a6 (QQ.length + 1) c6).ownBlock = some k → wo.heap.size ≤ k) := fun k e => by
            rcases N5.out with r | r
            · exact HGE.out k (r.symm.trans e)
            · rw [e] at r
              simp at r
              have := hz4.out.2
              omega
          go_roundw
          case rel => exact ⟨j + 1, a6, c6, QQ ++ [pj], by omega, by go_num, HQ1.out, by rw [List.length_append]; rfl, by rw [List.length_append]; exact O5.out, by rw [List.length_append]; exact GE5.out, K5.out⟩
          case measure => simp [intOf]; omega
        case neg =>
          obtain rfl : j = ps.length := by omega
          have hQe := HQ.out
          rw [List.take_length] at hQe
          subst hQe
          have G1 : Below wo.heap.size wo wr := HK.out.below
          obtain ⟨W5, hW5⟩ : ∃ W5, W5 = wr.alloc (.cells #[.int .i64 z, .slice a5 QQ.length c5] 78) := ⟨_, rfl⟩
          have T1 : Hid (Tw W0.heap.size W5 ns (.slice ba zs.length cp) zs) := by rw [hW5]; exact (HT.out.keep G1).keep ((Below.refl _ _).alloc (Nat.le_refl _) _)
          have NC := hide (nd_cells wr z (.slice a5 QQ.length c5))
          rw [← hW5] at NC
          have hb5 : Hid (W0.heap.size ≤ W5.heap.size) := by rw [hW5]; exact Nat.le_trans BQ.out.size (by simp)
          have BB5 : Hid (Below W0.heap.size W0 W5) := by rw [hW5]; exact BQ.out.alloc BQ.out.size _
          have GN : Hid (wo.grownBy wr none) := ⟨G1.os, G1.tape, G1.output, G1.size, fun i hi _ => G1.block i hi⟩
          have HW5 : Hid (W5 = wr.alloc (.cells #[.int .i64 z, .slice a5 QQ.length c5] 78)) := hW5
          have hzl2 : zs.length < 4398046510976 := by omega
          clear PQ G1
          go_wp2_with (first
            | refine wpList_blR rfl 78 #[(0, .tmp 43), (1, .tmp 44)] rfl #[.int .i64 z, .slice a5 QQ.length c5] (built_nd _ _ _ _) ?_
            | refine wpList_plain rfl fun _ hK => wp_bsNd (.tmp 45) rfl rfl (hK _ _ ?_)
            | (at_builtin; rw [← hW5]; refine wpList_append_own_at _ rfl (.tmp 37) (.tmp 46) 22 rfl W0.heap.size 78 i0 _ 2 32 Tryd.underlying22 HI.out.1 HI.out.2.1 HI.out.2.2.1 HI.out.2.2.2 rfl (by decide) (.slice ba zs.length cp) zs.length (ndc zs) rfl T1.out.row ⟨wr.heap.size, 0, none⟩ 1 1 (ndc [(z, .slice a5 QQ.length c5)]) rfl rfl NC.out (nd_one rfl) (by unfold maxLen; omega) (by omega) hb5.out ?_; intro vl' X3 o3 g3 _ _; have O3 := hide o3; have G3 := hide g3; clear o3 g3))
          have g3' := G3.out
          rw [HW5.out] at g3'
          have T3 := hide (TS.out wr X3 vl' _ HO.out GN.out O3.out g3')
          have S3 : Hid (Below W0.heap.size W0 X3) := BB5.out.grown G3.out hb5.out (fun j hj => (YteiiolilpemimaaDoor.own_lt T1.out.row hj).1)
          clear g3' hW5
          obtain ⟨ba', cp', hvl'⟩ := own_sl O3.out
          subst hvl'
          go_roundw
          case rel => exact ⟨zs ++ [(z, .slice a5 QQ.length c5)], by simp; omega, by simp, T3.out, S3.out⟩
          case measure => simp [intOf]; omega
    case neg =>
      have hqe : zs.length = ns.length := by omega
      rw [hqe] at HT ⊢
      have hqi : ¬ (ns.length : Int) < (ns.length : Int) := by omega
      have CW := C0.out.below HB.out
      have nvw := CW.nv
      have fvw : wr.frozen? ⟨w.heap.size, 22, none⟩ = false := fz_row CW 22
      obtain ⟨X6, hX6⟩ : ∃ X6, X6 = wr.setCell ⟨w.heap.size, 22, none⟩ (.slice ba ns.length cp) := ⟨_, rfl⟩
      have C6 : Hid (ClAt X6 w.heap.size st x (.slice ba ns.length cp)) := by rw [hX6]; exact CW.set _
      have B6 : Hid (Below w.heap.size w X6) := by rw [hX6]; exact set_below (B0.out.trans (HB.out.mono B0.out.size)) (Nat.le_refl _)
      have k6 : Kp wr X6 (fun k => k = w.heap.size) := by rw [hX6]; exact (Kp.refl wr (fun k => k = w.heap.size)).set (Or.inl rfl) _ _
      have R5 : ClAt wr (w.heap.size + 1) ⟨#[]⟩ zx (.slice none 0 0) := (HB.out.block _ (by have := s0.out; omega)).trans R0.out
      have R6 : Hid (ClAt X6 (w.heap.size + 1) ⟨#[]⟩ zx (.slice none 0 0)) := (k6.block _ (blk_lt R5) (by omega)).trans R5
      have T6 : Hid (Tw W0.heap.size X6 ns (.slice ba ns.length cp) zs) := ⟨own_keep HT.out.row fun g hg => k6.block g (YteiiolilpemimaaDoor.own_lt HT.out.row hg).2 (by have := (YteiiolilpemimaaDoor.own_lt HT.out.row hg).1; have := s0.out; omega), HT.out.z, fun q hq hq' => own_keep (HT.out.p q hq hq') fun g hg => k6.block g (YteiiolilpemimaaDoor.own_lt (HT.out.p q hq hq') hg).2 (by have := (YteiiolilpemimaaDoor.own_lt (HT.out.p q hq hq') hg).1; have := s0.out; omega)⟩
      clear CW k6 R5 HN hqi
      go_upto_region 12 with fail
      rw [← hX6]
      clear hX6 nvw fvw
      go_wp2_with (first | (refine wpList_loadCl rfl (.tmp 1) rfl w.heap.size st x _ rfl C6.out ?_) | (refine wpList_store_row rfl 24 (.tmp 2) (.tmp 50) rfl (w.heap.size + 1) (clA st x (.slice ba ns.length cp)) rfl rfl 24 _ R6.out infoCl rfl (clA_one st x rfl) ?_))
      have E6 : ClAt (X6.setRow (w.heap.size + 1) (clA st x (.slice ba ns.length cp))) (w.heap.size + 1) st x (.slice ba ns.length cp) := setRow_heap X6 (w.heap.size + 1) _ _ 24 _ R6.out
      have oth : ∀ i, i ≠ w.heap.size + 1 → (X6.setRow (w.heap.size + 1) (clA st x (.slice ba ns.length cp))).heap[i]? = X6.heap[i]? := fun i hi => setRow_other X6 (w.heap.size + 1) i _ (fun e => hi (by first | exact e | exact e.symm))
      have T7 : Tw W0.heap.size (X6.setRow (w.heap.size + 1) (clA st x (.slice ba ns.length cp))) ns (.slice ba ns.length cp) zs := ⟨own_keep T6.out.row fun g hg => oth g (by have := (YteiiolilpemimaaDoor.own_lt T6.out.row hg).1; have := s0.out; omega), T6.out.z, fun q hq hq' => own_keep (T6.out.p q hq hq') fun g hg => oth g (by have := (YteiiolilpemimaaDoor.own_lt (T6.out.p q hq hq') hg).1; have := s0.out; omega)⟩
      rw [s0.out] at T7
      have B7 : Below w.heap.size w (X6.setRow (w.heap.size + 1) (clA st x (.slice ba ns.length cp))) := below_setRow B6.out (by omega) _
      refine bodyPost_ret (v := .agg (clA st x (.slice ba ns.length cp))) (res_cl Tryd.results7 _ st x _ _ (w.heap.size + 1) rfl E6) rfl (by first | exact ⟨_, rfl, zs, hqe, T7, B7⟩ | exact ⟨_, zs, rfl, hqe, T7, B7⟩)
end Go.Proofs.YteiiolilpemimaaDoor.Cn
namespace Go.Proofs.YteiiolilpemimaaDoor.Cn
open Go.RowKit
set_option maxHeartbeats 8000000 in
set_option maxRecDepth 100000 in
set_option linter.unusedSimpArgs false in
set_option linter.unusedVariables false in
theorem same_ints {w : World} {b1 b2 : Nat} {v1 v2 : Value} {L : List Int} (h1 : w.ownsRow b1 3 1 v1 L.length (ints L)) (h2 : w.ownsRow b2 3 1 v2 L.length (ints L)) (hl : L.length ≤ 1000000) :
    Calls Tryd.prog 21 #[v1, v2] w fun e w' => e = .returned (.bool true) ∧ Kp w w' non := by
  obtain ⟨a1, c1, rfl⟩ := own_sl h1
  obtain ⟨a2, c2, rfl⟩ := own_sl h2
  have H1 := hide h1
  have H2 := hide h2
  obtain ⟨n, hn⟩ : ∃ n, n = L.length := ⟨_, rfl⟩
  have HN := hide hn
  rw [← hn] at hl ⊢
  clear hn h1 h2
  go_enter Tryd.func21, Tryd.ntmps21
  go_wp2_with fail
  go_loopw [5] (fun vi wr => ∃ i : Nat, i ≤ n ∧ vi = .int .i64 (i : Int) ∧ Hid (Kp w wr non)) (fun vi _ => n - (intOf vi).toNat)
  case atStart => exact ⟨0, Nat.zero_le _, rfl, Kp.refl _ _⟩
  case round =>
    obtain ⟨i, hi, rfl, HK⟩ := hrel
    by_cases hin : i < n
    case neg =>
      obtain rfl : i = n := by omega
      go_wp2_with fail
      go_ret
      exact ⟨rfl, HK.out⟩
    case pos =>
      have hii : (i : Int) < (n : Int) := by omega
      have hiL : i < L.length := by rw [← HN.out]; exact hin
      obtain ⟨g1, c1', e1, q1, -⟩ := own_at (own_kp H1.out HK.out (fun _ _ f => f)) (ints_at2 L i hiL)
      obtain ⟨g2, c2', e2, q2, -⟩ := own_at (own_kp H2.out HK.out (fun _ _ f => f)) (ints_at2 L i hiL)
      injection e1 with e1 _ _
      injection e2 with e2 _ _
      subst e1
      subst e2
      obtain ⟨z, hz⟩ : ∃ z, z = L[i] := ⟨_, rfl⟩
      rw [← hz] at q1 q2
      have C0 : Hid (wr.cell? ⟨g1, i, none⟩ = some (.int .i64 z) ∧ wr.cell? ⟨g2, i, none⟩ = some (.int .i64 z)) := ⟨q1, q2⟩
      have qz : (z != z) = false := by simp
      clear hz q1 q2
      go_upto_region 6 with fail
      refine wp_region_held_drew (S := fun X => X.cell? ⟨g1, i, none⟩ = some (.int .i64 z) ∧ X.cell? ⟨g2, i, none⟩ = some (.int .i64 z)) (by kernel_rfl) C0.out (fun hHeld => ?_)
      refine wpAnyH_take (i := 0) (v := (.slice (some ⟨g1, 0, none⟩) n c1)) rfl (by kernel_rfl) (by kernel_rfl) (by kernel_rfl) (fun _ _ _ h => h) (Or.inl ⟨by kernel_rfl, ?_⟩) (by assumption) ?_
      · intro w' hSw
        (try dsimp only at hSw)
        go_simp
      (try simp only [Act.put, List.getElem_toArray, List.getElem_cons_zero, List.getElem_cons_succ, List.setIfInBounds_toArray, List.set_cons_zero, List.set_cons_succ])
      refine wpAnyH_take (i := 1) (v := (.int .i64 (i : Int))) rfl (by kernel_rfl) (by kernel_rfl) (by kernel_rfl) (fun _ _ _ h => h) (Or.inl ⟨by kernel_rfl, ?_⟩) (by assumption) ?_
      · intro w' hSw
        (try dsimp only at hSw)
        go_simp
      (try simp only [Act.put, List.getElem_toArray, List.getElem_cons_zero, List.getElem_cons_succ, List.setIfInBounds_toArray, List.set_cons_zero, List.set_cons_succ])
      refine wpAnyH_take (i := 2) (v := (.pointer (some ⟨g1, i, none⟩))) rfl (by kernel_rfl) (by kernel_rfl) (by kernel_rfl) (fun _ _ _ h => h) (Or.inl ⟨by kernel_rfl, ?_⟩) (by assumption) ?_
      · intro w' hSw
        (try dsimp only at hSw)
        go_simp
      (try simp only [Act.put, List.getElem_toArray, List.getElem_cons_zero, List.getElem_cons_succ, List.setIfInBounds_toArray, List.set_cons_zero, List.set_cons_succ])
      refine wpAnyH_take (i := 3) (v := (.int .i64 z)) rfl (by kernel_rfl) (by kernel_rfl) (by kernel_rfl) (fun _ _ _ h => h) (Or.inl ⟨by kernel_rfl, ?_⟩) (by assumption) ?_
      · intro w' hSw
        (try dsimp only at hSw)
        (have y := hSw.1; go_simp)
      (try simp only [Act.put, List.getElem_toArray, List.getElem_cons_zero, List.getElem_cons_succ, List.setIfInBounds_toArray, List.set_cons_zero, List.set_cons_succ])
      refine wpAnyH_take (i := 4) (v := (.slice (some ⟨g2, 0, none⟩) n c2)) rfl (by kernel_rfl) (by kernel_rfl) (by kernel_rfl) (fun _ _ _ h => h) (Or.inl ⟨by kernel_rfl, ?_⟩) (by assumption) ?_
      · intro w' hSw
        (try dsimp only at hSw)
        go_simp
      (try simp only [Act.put, List.getElem_toArray, List.getElem_cons_zero, List.getElem_cons_succ, List.setIfInBounds_toArray, List.set_cons_zero, List.set_cons_succ])
      refine wpAnyH_take (i := 5) (v := (.int .i64 (i : Int))) rfl (by kernel_rfl) (by kernel_rfl) (by kernel_rfl) (fun _ _ _ h => h) (Or.inl ⟨by kernel_rfl, ?_⟩) (by assumption) ?_
      · intro w' hSw
        (try dsimp only at hSw)
        go_simp
      (try simp only [Act.put, List.getElem_toArray, List.getElem_cons_zero, List.getElem_cons_succ, List.setIfInBounds_toArray, List.set_cons_zero, List.set_cons_succ])
      refine wpAnyH_take (i := 6) (v := (.pointer (some ⟨g2, i, none⟩))) rfl (by kernel_rfl) (by kernel_rfl) (by kernel_rfl) (fun _ _ _ h => h) (Or.inl ⟨by kernel_rfl, ?_⟩) (by assumption) ?_
      · intro w' hSw
        (try dsimp only at hSw)
        go_simp
      (try simp only [Act.put, List.getElem_toArray, List.getElem_cons_zero, List.getElem_cons_succ, List.setIfInBounds_toArray, List.set_cons_zero, List.set_cons_succ])
      refine wpAnyH_take (i := 7) (v := (.int .i64 z)) rfl (by kernel_rfl) (by kernel_rfl) (by kernel_rfl) (fun _ _ _ h => h) (Or.inl ⟨by kernel_rfl, ?_⟩) (by assumption) ?_
      · intro w' hSw
        (try dsimp only at hSw)
        (have y := hSw.2; go_simp)
      (try simp only [Act.put, List.getElem_toArray, List.getElem_cons_zero, List.getElem_cons_succ, List.setIfInBounds_toArray, List.set_cons_zero, List.set_cons_succ])
      refine wpAnyH_ready (rs := [8]) (by kernel_rfl) (by simp) ?_
      refine AllReadyH.cons rfl (fun K hK => ?_) AllReadyH.nil
      go_simp
      refine hK.out _ _ (C0.out) (fun hHeld => ?_)
      clear hK
      (try simp only [Act.put, List.setIfInBounds_toArray, List.set_cons_zero, List.set_cons_succ])
      refine wpAnyH_done (by kernel_rfl) ?_ _
      clear hHeld
      go_wp2_with fail
      go_roundw
      case rel => exact ⟨i + 1, by omega, by go_num, HK.out.drew⟩
      case measure => simp [intOf]; omega
end Go.Proofs.YteiiolilpemimaaDoor.Cn
