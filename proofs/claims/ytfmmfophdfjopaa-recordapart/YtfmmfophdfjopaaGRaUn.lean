import Derived.Test.YtfmmfophdfjopaaGRkMade
namespace Go.Proofs.Ytfmmfophdfjopaa
open Go.RowKit
/-- all blocks but those from lo up to hi are as they were -/
structure Un (lo hi : Nat) (w w' : World) : Prop where
  os : w'.os = w.os
  tape : w'.tape = w.tape
  output : w'.output = w.output
  size : w.heap.size ≤ w'.heap.size
  block : ∀ k, k < w.heap.size → ¬ (lo ≤ k ∧ k < hi) → w'.heap[k]? = w.heap[k]?
theorem Un.refl (lo hi : Nat) (w : World) : Un lo hi w w := ⟨rfl, rfl, rfl, Nat.le_refl _, fun _ _ _ => rfl⟩
theorem Un.trans {lo hi : Nat} {a b c : World} (h : Un lo hi a b) (k : Un lo hi b c) : Un lo hi a c :=
  ⟨k.os.trans h.os, k.tape.trans h.tape, k.output.trans h.output, Nat.le_trans h.size k.size, fun i hi hn => (k.block i (Nat.lt_of_lt_of_le hi h.size) hn).trans (h.block i hi hn)⟩
theorem Un.of_below {lo hi : Nat} {w w' : World} (h : Below w.heap.size w w') : Un lo hi w w' := ⟨h.os, h.tape, h.output, h.size, fun k hk _ => h.block k hk⟩
theorem Un.of_grown {lo hi g : Nat} {w w' : World} (h : w.grownBy w' (some g)) (h1 : lo ≤ g) (h2 : g < hi) : Un lo hi w w' := ⟨h.os, h.tape, h.output, h.size, fun k hk hn => h.block k hk (fun e => by injection e with e; omega)⟩
/-- growth of a row that lies at hi or above, and was not there at first -/
theorem Un.of_late {lo hi : Nat} {w0 w w' : World} {row : Option Nat} (h0 : Un lo hi w0 w) (h : w.grownBy w' row) (hr : ∀ k, row = some k → w0.heap.size ≤ k) : Un lo hi w0 w' :=
  ⟨h.os.trans h0.os, h.tape.trans h0.tape, h.output.trans h0.output, Nat.le_trans h0.size h.size, fun k hk hn => (h.block k (Nat.lt_of_lt_of_le hk h0.size) (fun e => by have := hr k e.symm; omega)).trans (h0.block k hk hn)⟩
theorem Un.below {lo hi : Nat} {w w' : World} (h : Un lo hi w w') (hl : lo ≤ w.heap.size) : Below lo w w' := ⟨h.os, h.tape, h.output, h.size, fun k hk => h.block k (by omega) (by omega)⟩
theorem Un.own {lo hi : Nat} {w w' : World} (h : Un lo hi w w') {base e s n : Nat} {v : Value} {x : List Value} (o : w.ownsRow base e s v n x) (hn : ∀ k, v.ownBlock = some k → ¬ (lo ≤ k ∧ k < hi)) : w'.ownsRow base e s v n x := by
  refine ⟨o.1, ?_⟩
  rcases o.2 with q | ⟨g, cap, cur, q, hg, hblk, r⟩
  · exact .inl q
  · refine .inr ⟨g, cap, cur, q, hg, ?_, r⟩
    rw [h.block g (by
      have := (o.lt g (by rw [q]; rfl)).2
      exact this) (hn g (by rw [q]; rfl))]
    exact hblk
theorem Un.groups {lo hi : Nat} {w w' : World} (h : Un lo hi w w') {base : Nat} {v : Value} {gs : List GR} (g : GroupsAt w base v gs) (hb : hi ≤ base) : GroupsAt w' base v gs := by
  obtain ⟨ts, h1, h2, h3⟩ := g
  exact ⟨ts, h1, h.own h2 (fun k hk => by have := (h2.lt k hk).1; omega), fun t ht => h.own (h3 t ht) (fun k hk => by have := ((h3 t ht).lt k hk).1; omega)⟩
theorem MkOk.take {k : Nat} {gs : List GR} (h : MkOk k gs) (m : Nat) : MkOk k (gs.take m) := by
  obtain ⟨⟨h1, h2⟩, h3, h4⟩ := h
  refine ⟨⟨h1.sublist (List.take_sublist m gs), fun g hg => h2 g (List.mem_of_mem_take hg)⟩, Nat.le_trans (encD_le gs m) h3, ?_⟩
  exact fullL_le (fun g hg => Nat.le_trans (fullL_mem (List.mem_of_mem_take hg)) h4)
theorem GLies.take {w : World} {ao : Option Addr} {cap : Nat} {gs : List GR} (h : GLies w (.slice ao gs.length cap) gs) (m : Nat) (hm : m ≤ gs.length) (cap2 : Nat) : GLies w (.slice ao m cap2) (gs.take m) := by
  obtain ⟨qs, ao', g, off, cap', h1, h2, h3, h4, h5, h6⟩ := h
  simp only [Value.slice.injEq] at h2
  obtain ⟨rfl, _, rfl⟩ := h2
  refine ⟨qs.take m, ao, g, off, cap2, by rw [List.length_take, List.length_take, h1], by rw [List.length_take, show min m qs.length = m by omega], fun z => h3 (by rw [List.length_take] at z; omega), fun z => h4 (by rw [List.length_take] at z; omega), fun i hi => ?_, fun i hi hq => ?_⟩
  · rw [List.length_take] at hi
    rw [List.getElem_take]
    exact h5 i (by omega)
  · rw [List.length_take] at hi hq
    rw [List.getElem_take, List.getElem_take]
    exact h6 i (by omega) (by omega)
end Go.Proofs.Ytfmmfophdfjopaa
namespace Go.Proofs.Ytfmmfophdfjopaa
open Go.RowKit
def mkS (c : UInt8) (i : Nat) : ByteArray := strOf [c, UInt8.ofNat i, UInt8.ofNat (i / 256)]
/-- where the lists of the first answer lie -/
structure Stc (S0 S4 S11 F : Nat) (ts : List (GR × Value)) : Prop where
  le : S4 ≤ S11
  f : 0 < ts.length → S0 ≤ F ∧ F < S4
  b : ∀ (j : Nat) (h : j < ts.length) (g : Nat), ts[j].2.ownBlock = some g → S0 ≤ g ∧ g < S4 ∧ g ≠ F
  d : ∀ (j k : Nat) (hj : j < ts.length) (hk : k < ts.length), j ≠ k → ∀ g, ts[j].2.ownBlock = some g → ts[k].2.ownBlock ≠ some g
  s : ∀ (j : Nat) (h : j < ts.length), ∃ g c, ts[j].2 = .slice (some ⟨g, 0, none⟩) ts[j].1.2.length c
/-- the first i lists are marked -/
structure AA (S0 S4 F : Nat) (w11 : World) (ts : List (GR × Value)) (i : Nat) (w : World) : Prop where
  un : Un S0 S4 w11 w
  f : 0 < ts.length → ∃ cur, w.heap[F]? = some (.cells cur 41 (0, 0)) ∧ ∀ (j : Nat) (h : j < ts.length), cur[j * 2 + 1]? = some ts[j].2 ∧ j * 2 + 1 < cur.size
  rest : ∀ (j : Nat) (h : j < ts.length), i ≤ j → w.ownsRow S0 55 2 ts[j].2 ts[j].1.2.length (pc ts[j].1.2)
  done : ∀ (j : Nat) (h : j < ts.length), j < i → ∀ g, ts[j].2.ownBlock = some g → g < w.heap.size ∧ LiesP g 0 w (mks ts[j].1.2.length (mkS 109 j))
theorem AA.fl {S0 S4 F : Nat} {w11 w : World} {ts : List (GR × Value)} {i : Nat} (h : AA S0 S4 F w11 ts i w) (hp : 0 < ts.length) : F < w.heap.size := by
  obtain ⟨cur, e, _⟩ := h.f hp
  exact (Array.getElem?_eq_some_iff.1 e).1
theorem AA.cell {S0 S4 F : Nat} {w11 w : World} {ts : List (GR × Value)} {i : Nat} (h : AA S0 S4 F w11 ts i w) (j : Nat) (hj : j < ts.length) : w.cell? ⟨F, j * 2 + 1, none⟩ = some ts[j].2 := by
  obtain ⟨cur, e, h2⟩ := h.f (by omega)
  unfold World.cell?
  rw [e]
  exact (h2 j hj).1
theorem AA.wr {S0 S4 F : Nat} {w11 w : World} {ts : List (GR × Value)} {i : Nat} (h : AA S0 S4 F w11 ts i w) (j : Nat) (hj : j < ts.length) : (∃ y, w.cell? ⟨F, j * 2, none⟩ = some y) ∧ w.frozen? ⟨F, j * 2, none⟩ = false := by
  obtain ⟨cur, e, h2⟩ := h.f (by omega)
  have h3 : j * 2 < cur.size := by have := (h2 j hj).2; omega
  refine ⟨⟨cur[j * 2], ?_⟩, ?_⟩
  · unfold World.cell?
    rw [e]
    exact Array.getElem?_eq_getElem h3
  · unfold World.frozen?
    rw [e]
    simp
theorem AA.keep {S0 S4 S11 F : Nat} {w11 w w' : World} {ts : List (GR × Value)} {i : Nat} {row : Option Nat} (h : AA S0 S4 F w11 ts i w) (st : Stc S0 S4 S11 F ts) (hs : w11.heap.size = S11) (g : w.grownBy w' row) (hr : ∀ k, row = some k → S11 ≤ k) : AA S0 S4 F w11 ts i w' := by
  have hF : 0 < ts.length → some F ≠ row := fun hp e => by have := hr F e.symm; have := st.f hp; have := st.le; omega
  have hb : ∀ (j : Nat) (hj : j < ts.length) (k : Nat), ts[j].2.ownBlock = some k → some k ≠ row := fun j hj k hk e => by have := hr k e.symm; have := st.b j hj k hk; have := st.le; omega
  refine ⟨Un.of_late h.un g (fun k hk => by rw [hs]; exact hr k hk), ?_, fun j hj hij => (h.rest j hj hij).kept g ?_, fun j hj hij k hk => ?_⟩
  · intro hp
    obtain ⟨cur, e, h2⟩ := h.f hp
    exact ⟨cur, by rw [g.block F (h.fl hp) (hF hp)]; exact e, h2⟩
  · cases e : ts[j].2.ownBlock with
    | none => exact .inl rfl
    | some k => exact .inr (hb j hj k e)
  · obtain ⟨a, b⟩ := h.done j hj hij k hk
    exact ⟨Nat.lt_of_lt_of_le a g.size, lies_grown b a g (hb j hj k hk)⟩
theorem AA.mark {S0 S4 S11 F : Nat} {w11 w w' : World} {ts : List (GR × Value)} {i g : Nat} (h : AA S0 S4 F w11 ts i w) (st : Stc S0 S4 S11 F ts) (hi : i < ts.length) (hg : ts[i].2.ownBlock = some g) (gr : w.grownBy w' (some g)) (hl : LiesP g 0 w' (mks ts[i].1.2.length (mkS 109 i))) : AA S0 S4 F w11 ts (i + 1) w' := by
  have hgb := st.b i hi g hg
  have hgl : g < w.heap.size := ((h.rest i hi (Nat.le_refl _)).lt g hg).2
  refine ⟨h.un.trans (Un.of_grown gr hgb.1 hgb.2.1), ?_, fun j hj hij => (h.rest j hj (by omega)).kept gr ?_, fun j hj hij k hk => ?_⟩
  · intro hp
    obtain ⟨cur, e, h2⟩ := h.f hp
    exact ⟨cur, by rw [gr.block F (h.fl hp) (fun e => hgb.2.2 (Option.some.inj e).symm)]; exact e, h2⟩
  · exact .inr (st.d i j hi hj (by omega) g hg)
  · by_cases e : j = i
    · subst e
      obtain rfl : k = g := Option.some.inj (hk.symm.trans hg)
      exact ⟨Nat.lt_of_lt_of_le hgl gr.size, hl⟩
    · obtain ⟨a, b⟩ := h.done j hj (by omega) k hk
      exact ⟨Nat.lt_of_lt_of_le a gr.size, lies_grown b a gr (fun e2 => st.d i j hi hj (by omega) g hg (by rw [hk]; exact e2))⟩
theorem set_grown (w : World) (b o : Nat) (v : Value) : w.grownBy (w.setCell ⟨b, o, none⟩ v) (some b) := by
  refine ⟨rfl, rfl, rfl, by simp [World.setCell], fun k hk hne => ?_⟩
  simp only [World.setCell, Array.getElem?_modify]
  rw [if_neg (fun e => hne (by rw [e]))]
theorem AA.set {S0 S4 S11 F : Nat} {w11 w : World} {ts : List (GR × Value)} {i : Nat} (h : AA S0 S4 F w11 ts i w) (st : Stc S0 S4 S11 F ts) (hp : 0 < ts.length) (j : Nat) (v : Value) : AA S0 S4 F w11 ts i (w.setCell ⟨F, j * 2, none⟩ v) := by
  have gr := set_grown w F (j * 2) v
  refine ⟨h.un.trans (Un.of_grown gr (st.f hp).1 (st.f hp).2), ?_, fun j hj hij => (h.rest j hj hij).kept gr ?_, fun j hj hij k hk => ?_⟩
  · intro _
    obtain ⟨cur, e, h2⟩ := h.f hp
    refine ⟨cur.setIfInBounds (j * 2) v, ?_, fun q hq => ⟨?_, by rw [Array.size_setIfInBounds]; exact (h2 q hq).2⟩⟩
    · simp only [World.setCell, Array.getElem?_modify, if_true, e, Option.map_some]
      rfl
    · rw [Array.getElem?_setIfInBounds_ne (by omega)]
      exact (h2 q hq).1
  · cases e : ts[j].2.ownBlock with
    | none => exact .inl rfl
    | some k => exact .inr (fun e2 => (st.b j hj k e).2.2 (Option.some.inj e2))
  · obtain ⟨a, b⟩ := h.done j hj hij k hk
    exact ⟨Nat.lt_of_lt_of_le a gr.size, lies_grown b a gr (fun e2 => (st.b j hj k hk).2.2 (Option.some.inj e2))⟩
theorem gcell_at1 : ∀ (ts : List (GR × Value)) (j : Nat) (h : j < ts.length), (gcell ts)[j * 2 + 1]? = some ts[j].2
  | [], j, h => by simp at h
  | t :: ts, 0, h => rfl
  | t :: ts, j + 1, h => by
    have := gcell_at1 ts j (by simpa using h)
    rw [show (j + 1) * 2 + 1 = (j * 2 + 1) + 2 by omega]
    exact this
/-- the beginning: nothing is marked -/
theorem AA.start {S0 S4 F n c : Nat} {ao : Option Addr} {w11 : World} {ts : List (GR × Value)} (hao : 0 < ts.length → ao = some ⟨F, 0, none⟩) (h : w11.ownsRow S0 41 2 (.slice ao n c) ts.length (gcell ts)) (hr : ∀ t ∈ ts, w11.ownsRow S0 55 2 t.2 t.1.2.length (pc t.1.2)) : AA S0 S4 F w11 ts 0 w11 := by
  refine ⟨Un.refl _ _ _, fun hp => ?_, fun j hj _ => hr _ (List.getElem_mem hj), fun j hj h0 => absurd h0 (Nat.not_lt_zero _)⟩
  rcases h.2 with ⟨_, h0⟩ | ⟨g, cap, cur, hv, _, hblk, hcap, _, hsz, htk⟩
  · omega
  · rw [hao hp] at hv
    simp only [Value.slice.injEq, Option.some.injEq, Addr.mk.injEq, and_true] at hv
    obtain ⟨rfl, _, _⟩ := hv
    refine ⟨cur, hblk, fun j hj => ?_⟩
    have hlt : j * 2 + 1 < ts.length * 2 := by omega
    have h2 : j * 2 + 1 < cur.size := by
      have : ts.length * 2 ≤ cap * 2 := Nat.mul_le_mul_right 2 hcap
      omega
    refine ⟨?_, h2⟩
    have h3 := gcell_at1 ts j hj
    rw [← htk, List.getElem?_take_of_lt hlt, Array.getElem?_toList] at h3
    exact h3
/-- lists of pairs, as they lie in a list -/
def kcs (ks : List (Nat × Nat × Nat)) : List Value := ks.map fun k => .slice (some ⟨k.1, 0, none⟩) k.2.1 k.2.2
def szs (ks : List (Nat × Nat × Nat)) : List Value := ks.map fun k => .int .i64 (k.2.1 : Int)
/-- what was kept -/
structure BB (S0 S11 : Nat) (ts : List (GR × Value)) (kv : Value) (ks : List (Nat × Nat × Nat)) (w : World) : Prop where
  row : w.ownsRow S11 38 1 kv ks.length (kcs ks)
  n : ∀ (j : Nat) (h : j < ks.length) (h' : j < ts.length), ks[j].2.1 = ts[j].1.2.length + 65
  own : ∀ (j : Nat) (h : j < ks.length), w.ownsRow S0 55 2 (.slice (some ⟨ks[j].1, 0, none⟩) ks[j].2.1 ks[j].2.2) ks[j].2.1 (pc (mks ks[j].2.1 (mkS 109 j)))
  pos : ∀ (j : Nat) (h : j < ks.length) (h' : j < ts.length), ts[j].2.ownBlock = some ks[j].1 ∨ S11 ≤ ks[j].1
  le : ks.length ≤ ts.length
theorem BB.keep {S0 S11 : Nat} {ts : List (GR × Value)} {kv : Value} {ks : List (Nat × Nat × Nat)} {w w' : World} {row : Option Nat} (h : BB S0 S11 ts kv ks w) (g : w.grownBy w' row) (h1 : kv.ownBlock = none ∨ kv.ownBlock ≠ row) (h2 : ∀ (j : Nat) (h : j < ks.length), some ks[j].1 ≠ row) : BB S0 S11 ts kv ks w' :=
  ⟨h.row.kept g h1, h.n, fun j hj => (h.own j hj).kept g (.inr (h2 j hj)), h.pos, h.le⟩
/-- a low block is written -/
theorem BB.low {S0 S4 S11 F : Nat} {ts : List (GR × Value)} {kv : Value} {ks : List (Nat × Nat × Nat)} {w w' : World} {r : Nat} (h : BB S0 S11 ts kv ks w) (st : Stc S0 S4 S11 F ts) (g : w.grownBy w' (some r)) (hr : r < S4) (hn : ∀ (j : Nat) (h : j < ts.length), j < ks.length → ts[j].2.ownBlock ≠ some r) : BB S0 S11 ts kv ks w' := by
  have hle := st.le
  refine h.keep g ?_ fun j hj e => ?_
  · cases e : kv.ownBlock with
    | none => exact .inl rfl
    | some k => exact .inr (fun e2 => by have := (h.row.lt k e).1; have := Option.some.inj e2; omega)
  · have hj' : j < ts.length := Nat.lt_of_lt_of_le hj h.le
    have er := Option.some.inj e
    rcases h.pos j hj hj' with p | p
    · exact hn j hj' hj (by rw [p, er])
    · omega
/-- growth of a list of another type -/
theorem BB.other {S0 S11 : Nat} {ts : List (GR × Value)} {kv sv : Value} {ks : List (Nat × Nat × Nat)} {w w' : World} {b n : Nat} {x : List Value} (h : BB S0 S11 ts kv ks w) (o : w.ownsRow b 3 1 sv n x) (g : w.grownBy w' sv.ownBlock) : BB S0 S11 ts kv ks w' := by
  refine h.keep g (own_type h.row o (by decide)) fun j hj => ?_
  rcases own_type (h.own j hj) o (by decide) with e | e
  · cases e
  · exact e
theorem BB.add {S0 S11 : Nat} {ts : List (GR × Value)} {kv kv' : Value} {ks : List (Nat × Nat × Nat)} {w w' : World} {g n c : Nat} (h : BB S0 S11 ts kv ks w) (hl : ks.length < ts.length) (hn : n = ts[ks.length].1.2.length + 65) (ho : w.ownsRow S0 55 2 (.slice (some ⟨g, 0, none⟩) n c) n (pc (mks n (mkS 109 ks.length)))) (hp : ts[ks.length].2.ownBlock = some g ∨ S11 ≤ g) (o : w'.ownsRow S11 38 1 kv' (ks.length + 1) (kcs ks ++ [.slice (some ⟨g, 0, none⟩) n c])) (gr : w.grownBy w' kv.ownBlock) : BB S0 S11 ts kv' (ks ++ [(g, n, c)]) w' := by
  have hcase : ∀ (j : Nat) (h : j < (ks ++ [(g, n, c)]).length), (j < ks.length ∧ ∃ h', (ks ++ [(g, n, c)])[j] = ks[j]'h') ∨ (j = ks.length ∧ (ks ++ [(g, n, c)])[j] = (g, n, c)) := fun j hj => by
    by_cases e : j < ks.length
    · exact .inl ⟨e, e, List.getElem_append_left e⟩
    · have : j = ks.length := by simp at hj; omega
      subst this
      exact .inr ⟨rfl, by simp⟩
  refine ⟨?_, fun j hj hj' => ?_, fun j hj => ?_, fun j hj hj' => ?_, by simp; omega⟩
  · rw [List.length_append, show kcs (ks ++ [(g, n, c)]) = kcs ks ++ [.slice (some ⟨g, 0, none⟩) n c] by simp [kcs]]
    exact o
  · rcases hcase j hj with ⟨a, b, e⟩ | ⟨a, e⟩
    · rw [e]; exact h.n j a hj'
    · subst a; rw [e]; exact hn
  · rcases hcase j hj with ⟨a, b, e⟩ | ⟨a, e⟩
    · rw [e]; exact row_type (h.own j a) h.row (by decide) gr
    · subst a; rw [e]; exact row_type ho h.row (by decide) gr
  · rcases hcase j hj with ⟨a, b, e⟩ | ⟨a, e⟩
    · rw [e]; exact h.pos j a hj'
    · subst a; rw [e]; exact hp
theorem infoL2 : (Try.prog.info? 38).map (fun i => (i.zero, i.size, i.bytes)) = some (some (.slice none 0 0), 1, 24) := by kernel_rfl
theorem info3 : (Try.prog.info? 3).map (fun i => (i.zero, i.size, i.bytes)) = some (some (.int .i64 0), 1, 8) := by kernel_rfl
theorem u8_wr (x : Int) : IntKind.u8.wrap x = x % 256 := by
  simp [IntKind.wrap, IntKind.bits, IntKind.signed]
theorem heap_lastR (w : World) (o : Obj) : (w.alloc o).heap[w.heap.size]? = some o := by
  unfold World.alloc
  exact Array.getElem?_push_size
theorem below_grown {w w1 w2 : World} {row : Option Nat} (h : Below w.heap.size w w1) (g : w1.grownBy w2 row) : w.grownBy w2 row :=
  ⟨g.os.trans h.os, g.tape.trans h.tape, g.output.trans h.output, Nat.le_trans h.size g.size, fun k hk hn => (g.block k (Nat.lt_of_lt_of_le hk h.size) hn).trans (h.block k hk)⟩
theorem below_grown0 {w w1 : World} (h : Below w.heap.size w w1) : w.grownBy w1 none := ⟨h.os, h.tape, h.output, h.size, fun k hk _ => h.block k hk⟩
theorem alloc_grown (w : World) (o : Obj) : w.grownBy (w.alloc o) none := below_grown0 ((Below.refl _ w).alloc (Nat.le_refl _) o)
theorem BB.none {S0 S11 : Nat} {ts : List (GR × Value)} {kv : Value} {ks : List (Nat × Nat × Nat)} {w w' : World} (h : BB S0 S11 ts kv ks w) (g : w.grownBy w' none) : BB S0 S11 ts kv ks w' := by
  refine h.keep g ?_ fun j hj e => by cases e
  cases e : kv.ownBlock with
  | none => exact .inl rfl
  | some k => exact .inr (fun e2 => by cases e2)
theorem own_none {w w' : World} {b e s n : Nat} {v : Value} {x : List Value} (h : w.ownsRow b e s v n x) (g : w.grownBy w' none) : w'.ownsRow b e s v n x := by
  refine h.kept g ?_
  cases e : v.ownBlock with
  | none => exact .inl rfl
  | some k => exact .inr (fun e2 => by cases e2)
/-- two bytes, as a text -/
theorem mark_conv (w : World) (i : Nat) : (convert 42 9 (.slice (some ⟨w.heap.size, 0, none⟩) 2 2)).run Try.prog (w.alloc (.cells #[.int .u8 ((i : Int) % 256), .int .u8 ((i : Int) / 256 % 256)] 5)) = .ok (.string (strOf [UInt8.ofNat i, UInt8.ofNat (i / 256)])) (w.alloc (.cells #[.int .u8 ((i : Int) % 256), .int .u8 ((i : Int) / 256 % 256)] 5)) := by
  have e1 : (i : Int) % 256 = ((UInt8.ofNat i).toNat : Int) := by rw [UInt8.toNat_ofNat']; omega
  have e2 : (i : Int) / 256 % 256 = ((UInt8.ofNat (i / 256)).toNat : Int) := by rw [UInt8.toNat_ofNat']; omega
  rw [e1, e2]
  exact run_convert_bytes_back (P := Try.prog) _ 42 9 5 ⟨w.heap.size, 0, none⟩ 2 [UInt8.ofNat i, UInt8.ofNat (i / 256)] Try.underlying42 Try.underlying5 Try.underlying9 (fun j hj => by
    have hb : (w.alloc (.cells #[.int .u8 ((UInt8.ofNat i).toNat : Int), .int .u8 ((UInt8.ofNat (i / 256)).toNat : Int)] 5)).heap[w.heap.size]? = some (.cells #[.int .u8 ((UInt8.ofNat i).toNat : Int), .int .u8 ((UInt8.ofNat (i / 256)).toNat : Int)] 5) := heap_lastR _ _
    have : j = 0 ∨ j = 1 := by simp at hj; omega
    rcases this with rfl | rfl
    · show World.cell? _ ⟨w.heap.size, 0, none⟩ = _
      unfold World.cell?
      rw [hb]
      rfl
    · show World.cell? _ ⟨w.heap.size, 1, none⟩ = _
      unfold World.cell?
      rw [hb]
      rfl)
theorem mark_convD (w : World) (i : Nat) : (convert 42 9 (.slice (some ⟨w.heap.size, 0, none⟩) 2 2)).run Try.prog (w.alloc (.cells #[.int .u8 ((i : Int) % 256), .int .u8 ((i : Int) / 256 % 256)] 5)).drew = .ok (.string (strOf [UInt8.ofNat i, UInt8.ofNat (i / 256)])) (w.alloc (.cells #[.int .u8 ((i : Int) % 256), .int .u8 ((i : Int) / 256 % 256)] 5)).drew := by
  have e1 : (i : Int) % 256 = ((UInt8.ofNat i).toNat : Int) := by rw [UInt8.toNat_ofNat']; omega
  have e2 : (i : Int) / 256 % 256 = ((UInt8.ofNat (i / 256)).toNat : Int) := by rw [UInt8.toNat_ofNat']; omega
  rw [e1, e2]
  exact run_convert_bytes_back (P := Try.prog) _ 42 9 5 ⟨w.heap.size, 0, none⟩ 2 [UInt8.ofNat i, UInt8.ofNat (i / 256)] Try.underlying42 Try.underlying5 Try.underlying9 (fun j hj => by
    have hb : (w.alloc (.cells #[.int .u8 ((UInt8.ofNat i).toNat : Int), .int .u8 ((UInt8.ofNat (i / 256)).toNat : Int)] 5)).drew.heap[w.heap.size]? = some (.cells #[.int .u8 ((UInt8.ofNat i).toNat : Int), .int .u8 ((UInt8.ofNat (i / 256)).toNat : Int)] 5) := heap_lastR _ _
    have : j = 0 ∨ j = 1 := by simp at hj; omega
    rcases this with rfl | rfl
    · show World.cell? _ ⟨w.heap.size, 0, none⟩ = _
      unfold World.cell?
      rw [hb]
      rfl
    · show World.cell? _ ⟨w.heap.size, 1, none⟩ = _
      unfold World.cell?
      rw [hb]
      rfl)
theorem mark_add (c : UInt8) (i : Nat) : (⟨#[c]⟩ : ByteArray) ++ strOf [UInt8.ofNat i, UInt8.ofNat (i / 256)] = mkS c i := by
  unfold mkS
  apply ba_ext
  rw [ByteArray.data_append, Array.toList_append, strOf_data, strOf_data]
  rfl
end Go.Proofs.Ytfmmfophdfjopaa
namespace Go.Proofs.Ytfmmfophdfjopaa
open Go.RowKit
/-- a list of lists is no list of texts -/
theorem row_str {w : World} {b g m : Nat} {v : Value} {ks : List (Nat × Nat × Nat)} {mk : ByteArray} (h : w.ownsRow b 38 1 v ks.length (kcs ks)) (hz : ks.length = 0 → v = .slice none 0 0) (hl : LiesP g 0 w (mks m mk)) (hm : 1 ≤ m) : v.ownBlock ≠ some g := by
  intro e
  have hpos : 0 < ks.length := by
    by_cases h0 : ks.length = 0
    · rw [hz h0] at e; cases e
    · omega
  rcases h.2 with ⟨rfl, _⟩ | ⟨g', cap, cur, rfl, _, hblk, _, _, _, htk⟩
  · cases e
  · obtain rfl : g' = g := by simpa [Value.ownBlock] using e
    have c0 := (hl 0 (by rw [mks_len]; omega)).1
    rw [show 0 + 0 * 2 = 0 from rfl] at c0
    unfold World.cell? at c0
    rw [hblk] at c0
    have c1 : cur[0]? = some (.slice (some ⟨ks[0].1, 0, none⟩) ks[0].2.1 ks[0].2.2) := by
      have : (cur.toList.take (ks.length * 1))[0]? = (kcs ks)[0]? := by rw [htk]
      rw [List.getElem?_take_of_lt (by omega), Array.getElem?_toList] at this
      rw [this]
      unfold kcs
      rw [List.getElem?_map, List.getElem?_eq_getElem hpos]
      rfl
    have c2 : cur[0]? = some (.string ((mks m mk)[0]'(by rw [mks_len]; omega)).1) := c0
    rw [c1] at c2
    cases c2
theorem row_at0 {w : World} {b k : Nat} {v : Value} {ks : List (Nat × Nat × Nat)} (h : w.ownsRow b 38 1 v ks.length (kcs ks)) (hp : 0 < ks.length) (hk : v.ownBlock = some k) : w.cell? ⟨k, 0, none⟩ = some (.slice (some ⟨ks[0].1, 0, none⟩) ks[0].2.1 ks[0].2.2) := by
  rcases h.2 with ⟨rfl, _⟩ | ⟨g', cap, cur, rfl, _, hblk, _, _, _, htk⟩
  · cases hk
  · obtain rfl : g' = k := by simpa [Value.ownBlock] using hk
    unfold World.cell?
    rw [hblk]
    have : (cur.toList.take (ks.length * 1))[0]? = (kcs ks)[0]? := by rw [htk]
    rw [List.getElem?_take_of_lt (by omega), Array.getElem?_toList] at this
    show cur[0]? = _
    rw [this]
    unfold kcs
    rw [List.getElem?_map, List.getElem?_eq_getElem hp]
    rfl
theorem row_atj {w : World} {b n c : Nat} {ao : Option Addr} {ks : List (Nat × Nat × Nat)} (h : w.ownsRow b 38 1 (.slice ao n c) ks.length (kcs ks)) {j : Nat} (hj : j < ks.length) : ∃ br, ao = some ⟨br, 0, none⟩ ∧ br < w.heap.size ∧ w.cell? ⟨br, j, none⟩ = some (.slice (some ⟨ks[j].1, 0, none⟩) ks[j].2.1 ks[j].2.2) := by
  rcases h.2 with ⟨_, h0⟩ | ⟨g', cap, cur, q, _, hblk, _, _, _, htk⟩
  · omega
  · simp only [Value.slice.injEq] at q
    refine ⟨g', q.1, (Array.getElem?_eq_some_iff.1 hblk).1, ?_⟩
    unfold World.cell?
    rw [hblk]
    have : (cur.toList.take (ks.length * 1))[j]? = (kcs ks)[j]? := by rw [htk]
    rw [List.getElem?_take_of_lt (by omega), Array.getElem?_toList] at this
    show cur[j]? = _
    rw [this]
    unfold kcs
    rw [List.getElem?_map, List.getElem?_eq_getElem hj]
    rfl
theorem row_int {w : World} {b n c : Nat} {ao : Option Addr} {ks : List (Nat × Nat × Nat)} (h : w.ownsRow b 3 1 (.slice ao n c) ks.length (szs ks)) {j : Nat} (hj : j < ks.length) : ∃ br, ao = some ⟨br, 0, none⟩ ∧ br < w.heap.size ∧ w.cell? ⟨br, j, none⟩ = some (.int .i64 (ks[j].2.1 : Int)) := by
  rcases h.2 with ⟨_, h0⟩ | ⟨g', cap, cur, q, _, hblk, _, _, _, htk⟩
  · omega
  · simp only [Value.slice.injEq] at q
    refine ⟨g', q.1, (Array.getElem?_eq_some_iff.1 hblk).1, ?_⟩
    unfold World.cell?
    rw [hblk]
    have : (cur.toList.take (ks.length * 1))[j]? = (szs ks)[j]? := by rw [htk]
    rw [List.getElem?_take_of_lt (by omega), Array.getElem?_toList] at this
    show cur[j]? = _
    rw [this]
    unfold szs
    rw [List.getElem?_map, List.getElem?_eq_getElem hj]
    rfl
/-- two lists of lists whose first ones lie apart -/
theorem row_ne {w : World} {b b' : Nat} {v u : Value} {ks ls : List (Nat × Nat × Nat)} (h : w.ownsRow b 38 1 v ks.length (kcs ks)) (hz : ks.length = 0 → v = .slice none 0 0) (h' : w.ownsRow b' 38 1 u ls.length (kcs ls)) (hz' : ls.length = 0 → u = .slice none 0 0) (hne : ∀ (p : 0 < ks.length) (q : 0 < ls.length), ks[0].1 ≠ ls[0].1) : v.ownBlock = none ∨ v.ownBlock ≠ u.ownBlock := by
  cases e : v.ownBlock with
  | none => exact .inl rfl
  | some k =>
    refine .inr fun e2 => ?_
    have p : 0 < ks.length := by
      by_cases h0 : ks.length = 0
      · rw [hz h0] at e; cases e
      · omega
    have q : 0 < ls.length := by
      by_cases h0 : ls.length = 0
      · rw [hz' h0] at e2; cases e2
      · omega
    have c1 := row_at0 h p e
    have c2 := row_at0 h' q e2.symm
    rw [c1] at c2
    simp only [Option.some.injEq, Value.slice.injEq, Addr.mk.injEq, and_true] at c2
    exact hne p q c2.1
theorem kcs_add (ks : List (Nat × Nat × Nat)) (g n c : Nat) : kcs (ks ++ [(g, n, c)]) = kcs ks ++ [.slice (some ⟨g, 0, none⟩) n c] := by simp [kcs]
theorem snoc_at {α : Type} (ks : List α) (x : α) (j : Nat) (hj : j < (ks ++ [x]).length) : (j < ks.length ∧ ∃ h', (ks ++ [x])[j] = ks[j]'h') ∨ (j = ks.length ∧ (ks ++ [x])[j] = x) := by
  by_cases e : j < ks.length
  · exact .inl ⟨e, e, List.getElem_append_left e⟩
  · have : j = ks.length := by simp at hj; omega
    subst this
    exact .inr ⟨rfl, by simp⟩
theorem own_lies {w : World} {base g c : Nat} {ps : List KV} (h : w.ownsRow base 55 2 (.slice (some ⟨g, 0, none⟩) ps.length c) ps.length (pc ps)) : LiesP g 0 w ps := by
  obtain ⟨ao, g', cap, e, h1, h2, h3⟩ := own_pairs h
  simp only [Value.slice.injEq] at e
  by_cases h0 : 0 < ps.length
  · have := e.1.trans (h1 h0)
    simp only [Option.some.injEq, Addr.mk.injEq, and_true] at this
    rw [this]
    exact h3
  · exact fun i hi => by omega
/-- what was read, so far: the first m are marked -/
structure RG (S : Nat) (gs : List GR) (w0 : World) (rv tv : Value) (rs qs : List (Nat × Nat × Nat)) (m : Nat) (w : World) : Prop where
  bl : Below S w0 w
  tr : w.ownsRow S 38 1 tv qs.length (kcs qs)
  tz : qs.length = 0 → tv = .slice none 0 0
  te : ∀ (j : Nat) (_ : j < qs.length) (_ : j < gs.length), qs[j].2.1 = gs[j].2.length ∧ w.ownsRow S 55 2 (.slice (some ⟨qs[j].1, 0, none⟩) gs[j].2.length qs[j].2.2) gs[j].2.length (pc gs[j].2)
  rr : w.ownsRow S 38 1 rv rs.length (kcs rs)
  rz : rs.length = 0 → rv = .slice none 0 0
  re : ∀ (j : Nat) (_ : j < rs.length), j < m → S ≤ rs[j].1 ∧ rs[j].1 < w.heap.size ∧ 1 ≤ rs[j].2.1 ∧ rs[j].2.1 ≤ 70000 ∧ LiesP rs[j].1 0 w (mks rs[j].2.1 (mkS 114 (j / 2)))
  hd : ∀ (_ : 0 < rs.length) (_ : 0 < qs.length), rs[0].1 ≠ qs[0].1
theorem RG.start {S : Nat} {gs : List GR} {w : World} : RG S gs w (.slice none 0 0) (.slice none 0 0) [] [] 0 w :=
  ⟨Below.refl _ _, World.ownsRow_nil _ _ _ _, fun _ => rfl, fun _ h => absurd h (Nat.not_lt_zero _), World.ownsRow_nil _ _ _ _, fun _ => rfl, fun _ h => absurd h (Nat.not_lt_zero _), fun h => absurd h (Nat.not_lt_zero _)⟩
theorem bl_grown {S : Nat} {w0 w w' : World} {row : Option Nat} (h : Below S w0 w) (hS : S ≤ w.heap.size) (g : w.grownBy w' row) (hr : ∀ k, row = some k → S ≤ k) : Below S w0 w' :=
  ⟨g.os.trans h.os, g.tape.trans h.tape, g.output.trans h.output, Nat.le_trans h.size g.size, fun k hk => (g.block k (by omega) (fun e => by have := hr k e.symm; omega)).trans (h.block k hk)⟩
theorem RG.keep {S : Nat} {gs : List GR} {w0 w w' : World} {rv tv : Value} {rs qs : List (Nat × Nat × Nat)} {m : Nat} {row : Option Nat} (h : RG S gs w0 rv tv rs qs m w) (hS : S ≤ w.heap.size) (g : w.grownBy w' row) (hr : ∀ k, row = some k → S ≤ k) (h1 : tv.ownBlock = none ∨ tv.ownBlock ≠ row) (h2 : rv.ownBlock = none ∨ rv.ownBlock ≠ row) (h3 : ∀ (j : Nat) (_ : j < qs.length) (_ : j < gs.length), some qs[j].1 ≠ row) (h4 : ∀ (j : Nat) (_ : j < rs.length), j < m → some rs[j].1 ≠ row) : RG S gs w0 rv tv rs qs m w' :=
  ⟨bl_grown h.bl hS g hr, h.tr.kept g h1, h.tz, fun j a b => ⟨(h.te j a b).1, (h.te j a b).2.kept g (.inr (h3 j a b))⟩, h.rr.kept g h2, h.rz, fun j a b => by
    obtain ⟨q1, q2, q3, q4, q5⟩ := h.re j a b
    exact ⟨q1, Nat.lt_of_lt_of_le q2 g.size, q3, q4, lies_grown q5 q2 g (h4 j a b)⟩, h.hd⟩
/-- only what is new was written -/
theorem RG.late {S : Nat} {gs : List GR} {w0 w w' : World} {rv tv : Value} {rs qs : List (Nat × Nat × Nat)} {m : Nat} {row : Option Nat} (h : RG S gs w0 rv tv rs qs m w) (hS : S ≤ w.heap.size) (g : w.grownBy w' row) (hr : ∀ k, row = some k → w.heap.size ≤ k) : RG S gs w0 rv tv rs qs m w' := by
  have hne : ∀ k, k < w.heap.size → some k ≠ row := fun k hk e => by have := hr k e.symm; omega
  have hk : ∀ {b e s n : Nat} {v : Value} {x : List Value}, w.ownsRow b e s v n x → v.ownBlock = none ∨ v.ownBlock ≠ row := fun {b e s n v x} o => by
    cases q : v.ownBlock with
    | none => exact .inl rfl
    | some k => exact .inr (hne k (o.lt k q).2)
  refine h.keep hS g (fun k hk => Nat.le_trans hS (hr k hk)) (hk h.tr) (hk h.rr) (fun j a b => hne _ ((h.te j a b).2.lt _ rfl).2) (fun j a b => hne _ (h.re j a b).2.1)
theorem RG.below {S : Nat} {gs : List GR} {w0 w w' : World} {rv tv : Value} {rs qs : List (Nat × Nat × Nat)} {m : Nat} (h : RG S gs w0 rv tv rs qs m w) (hS : S ≤ w.heap.size) (g : Below w.heap.size w w') : RG S gs w0 rv tv rs qs m w' := h.late hS (below_grown0 g) (fun k hk => by cases hk)
/-- a twin more -/
theorem RG.twin {S : Nat} {gs : List GR} {w0 w w' : World} {rv tv tv' : Value} {rs qs : List (Nat × Nat × Nat)} {m g c : Nat} (h : RG S gs w0 rv tv rs qs m w) (hS : S ≤ w.heap.size) (hl : qs.length < gs.length) (ho : w.ownsRow S 55 2 (.slice (some ⟨g, 0, none⟩) gs[qs.length].2.length c) gs[qs.length].2.length (pc gs[qs.length].2)) (hh : 0 < rs.length → 0 < qs.length) (o : w'.ownsRow S 38 1 tv' (qs.length + 1) (kcs qs ++ [.slice (some ⟨g, 0, none⟩) gs[qs.length].2.length c])) (gr : w.grownBy w' tv.ownBlock) : RG S gs w0 rv tv' rs (qs ++ [(g, gs[qs.length].2.length, c)]) m w' := by
  have hrow : ∀ k, tv.ownBlock = some k → S ≤ k := fun k hk => (h.tr.lt k hk).1
  refine ⟨bl_grown h.bl hS gr hrow, ?_, fun e => by simp at e, fun j a b => ?_, h.rr.kept gr ?_, h.rz, fun j a b => ?_, fun a b => ?_⟩
  · rw [kcs_add, List.length_append]
    exact o
  · rcases snoc_at qs _ j a with ⟨p, q, e⟩ | ⟨p, e⟩
    · rw [e]
      exact ⟨(h.te j p b).1, row_type (h.te j p b).2 h.tr (by decide) gr⟩
    · subst p
      rw [e]
      exact ⟨rfl, row_type ho h.tr (by decide) gr⟩
  · exact row_ne h.rr h.rz h.tr h.tz h.hd
  · obtain ⟨q1, q2, q3, q4, q5⟩ := h.re j a b
    exact ⟨q1, Nat.lt_of_lt_of_le q2 gr.size, q3, q4, lies_grown q5 q2 gr (fun e => row_str h.tr h.tz q5 q3 e.symm)⟩
  · have hq := hh a
    rw [List.getElem_append_left hq]
    exact h.hd a hq
/-- a list more was read -/
theorem RG.read {S : Nat} {gs : List GR} {w0 w w' : World} {rv tv rv' : Value} {rs qs : List (Nat × Nat × Nat)} {m g n c : Nat} (h : RG S gs w0 rv tv rs qs m w) (hS : S ≤ w.heap.size) (hm : m ≤ rs.length) (hh : ∀ (_ : 0 < qs.length), rs.length = 0 → g ≠ qs[0].1) (o : w'.ownsRow S 38 1 rv' (rs.length + 1) (kcs rs ++ [.slice (some ⟨g, 0, none⟩) n c])) (gr : w.grownBy w' rv.ownBlock) : RG S gs w0 rv' tv (rs ++ [(g, n, c)]) qs m w' := by
  have hrow : ∀ k, rv.ownBlock = some k → S ≤ k := fun k hk => (h.rr.lt k hk).1
  refine ⟨bl_grown h.bl hS gr hrow, h.tr.kept gr ?_, h.tz, fun j a b => ⟨(h.te j a b).1, row_type (h.te j a b).2 h.rr (by decide) gr⟩, ?_, fun e => by simp at e, fun j a b => ?_, fun a b => ?_⟩
  · exact row_ne h.tr h.tz h.rr h.rz (fun p q e => h.hd q p e.symm)
  · rw [kcs_add, List.length_append]
    exact o
  · rcases snoc_at rs _ j a with ⟨p, q, e⟩ | ⟨p, e⟩
    · rw [e]
      obtain ⟨q1, q2, q3, q4, q5⟩ := h.re j p b
      exact ⟨q1, Nat.lt_of_lt_of_le q2 gr.size, q3, q4, lies_grown q5 q2 gr (fun e => row_str h.rr h.rz q5 q3 e.symm)⟩
    · omega
  · by_cases e : 0 < rs.length
    · rw [List.getElem_append_left e]
      exact h.hd e b
    · have e0 : rs.length = 0 := by omega
      obtain rfl : rs = [] := List.length_eq_zero_iff.1 e0
      exact hh b e0
/-- the next one is marked -/
theorem RG.more {S : Nat} {gs : List GR} {w0 w : World} {rv tv : Value} {rs qs : List (Nat × Nat × Nat)} {m : Nat} (h : RG S gs w0 rv tv rs qs m w) (hm : m < rs.length) (hx : S ≤ rs[m].1 ∧ rs[m].1 < w.heap.size ∧ 1 ≤ rs[m].2.1 ∧ rs[m].2.1 ≤ 70000 ∧ LiesP rs[m].1 0 w (mks rs[m].2.1 (mkS 114 (m / 2)))) : RG S gs w0 rv tv rs qs (m + 1) w :=
  ⟨h.bl, h.tr, h.tz, h.te, h.rr, h.rz, fun j a b => by
    by_cases e : j = m
    · subst e; exact hx
    · exact h.re j a (by omega), h.hd⟩
end Go.Proofs.Ytfmmfophdfjopaa
