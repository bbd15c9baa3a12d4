import Derived.Test.YtndfhpfhgdamgaaGreatDoorGRvInvT
import Derived.Test.YtndfhpfhgdamgaaGreatDoorGRvOpened
import Derived.Test.YtndfhpfhgdamgaaGreatDoorGRvClus
import Derived.Test.YtndfhpfhgdamgaaGreatDoorGRuCopyOf
import Derived.Test.YtndfhpfhgdamgaaGreatDoorGCaBase
import Derived.Test.YtndfhpfhgdamgaaGreatDoorGGkWalk
import Derived.Test.YtndfhpfhgdamgaaGreatDoorGGmTake
namespace Go.Proofs.YtndfhpfhgdamgaaGreatDoor.Cn
open Go.RowKit
def dk0 : Dk := ⟨[], [], []⟩
def rv0 (c : Cl) : Rv := ⟨Dt.new c.ns.length (c.x 18) (c.x 19), 0, 0⟩
theorem pu0 {c : Cl} (he : errP c.st c.x c.ns = 0) (hs : c.st.size ≤ 9223372036854775807) : Pu c [] (rv0 c) dk0 0 := by
  obtain ⟨a1, a2, a3, a4, a5, a6⟩ := errP_all he
  have l18 : 1 ≤ c.x 18 ∧ c.x 18 ≤ 64 := sfP_lim a2 18 (by omega)
  have l19 : 1 ≤ c.x 19 ∧ c.x 19 ≤ 1024 := sfP_lim a2 19 (by omega)
  have hnl := nfP_len a3
  have hf : (rv0 c).d.fits := ⟨hnl.1, hnl.2, l18.1, l18.2, l19.1, l19.2, Int.le_refl 0⟩
  refine ⟨⟨he, hs, ⟨hf, fun _ => Int.le_refl 0, fun _ => Int.le_refl 0, Int.le_refl 0⟩, fun _ => ?_, rfl, Int.le_refl 0, Int.le_refl 0, fun g hg => absurd hg (by simp), List.Pairwise.nil, fun g hg => absurd hg (by simp), fun g hg => absurd hg (by simp), fun g hg => absurd hg (by simp), by simp⟩, ⟨rfl, rfl, fun g hg => absurd hg (by simp), fun i hi => ?_, fun g hg => absurd hg (by simp)⟩, Int.le_refl 0, Nat.le_refl 0, Nat.le_refl 0, fun x hx => absurd hx (by simp [dk0]), fun g hg => absurd hg (by simp)⟩
  · show (0 : Int) ≤ 0 + c.x 19
    omega
  · simp [dk0] at hi
theorem dk_new {w : World} {base B R : Nat} (hb : w.heap[B]? = some (.cells #[.pointer (some ⟨R, 0, none⟩), .slice none 0 0, .slice none 0 0, .slice none 0 0] 63)) (hB : base ≤ B) : DkAt w base (fun j => j = B) B R dk0 := by
  refine ⟨.slice none 0 0, .slice none 0 0, .slice none 0 0, ⟨hb, hB, ⟨rfl, Or.inl ⟨rfl, rfl⟩⟩, ⟨rfl, Or.inl ⟨rfl, rfl⟩⟩, ⟨rfl, Or.inl ⟨rfl, rfl⟩⟩⟩, fun j => ⟨fun q => Or.inl q, fun q => ?_⟩⟩
  rcases q with q | q | q | q
  · exact q
  all_goals exact absurd q (by simp [Value.ownBlock])
def fst : ByteArray := ⟨#[102, 105, 114, 115, 116]⟩
def opF : Op2 := ⟨1, 0, fst, .slice none 0 0, mg0⟩
noncomputable def gtF (c : Cl) : Gt := ⟨0 + 1, fst, ordL (rv0 c).d (baseOf c fst), 1, 0⟩
noncomputable def kF (c : Cl) : Dk := (dk0.opn [fst]).wnt [getMg (gtF c)]
set_option maxHeartbeats 16000000 in
set_option maxRecDepth 100000 in
set_option linter.unusedSimpArgs false in
set_option linter.unusedVariables false in
/-- a desk with its first get -/
theorem seat_any (N : Nat) (w : World) (st : ByteArray) (x : Nat → Int) (ao : Option Addr) (b o cap : Nat) (pv : Nat → Value) (ns : List ND) (h : NsAt N w ao b o pv ns) (hN : N ≤ w.heap.size) (hs : st.size ≤ 281474976710656) (he : errP st x ns = 0) (hT : TabD w) (h3 : 3 ≤ w.heap.size) :
    Calls Tryz.prog 18 #[.agg (clA st x (.slice ao ns.length cap))] w fun e w' => ∃ S T R B P, e = .returned (.tuple #[.pointer (some ⟨B, 0, none⟩), .bool true]) ∧ RtAt w' S R ⟨st, x, ns⟩ P { rv0 ⟨st, x, ns⟩ with last := 0 + 1 } ∧ P.map (·.g) = [gtF ⟨st, x, ns⟩] ∧ DkAt w' w.heap.size T B R (kF ⟨st, x, ns⟩) ∧ Below w.heap.size w w' ∧ ∀ j, S j → w.heap.size ≤ j := by
  obtain ⟨a1, a2, a3, a4, a5, a6⟩ := errP_all he
  have hnl := nfP_len a3
  have hps := ps_small a4
  obtain ⟨W0, hW0, hX⟩ := boxed st x cap h hN
  have HX := hide (hX.stand hN)
  have B0 := hide hX.bel
  clear hX h
  have CL := hide (cluster_any N W0 st x ao b o cap pv ns HX.out.nd HX.out.le hps (by omega))
  have NW : Hid (∀ W1 vl zs, zs.length = ns.length → Tw (W0.heap.size + 2) W1 ns vl zs → ∃ ao' cap', vl = .slice ao' ns.length cap' ∧ Calls Tryz.prog 11 #[.agg (clA st x (.slice ao' ns.length cap'))] W1 fun e w' => ∃ R S, e = .returned (.tuple #[.pointer (some ⟨R, 0, none⟩), .int .i64 0]) ∧ RtAt w' S R ⟨st, x, ns⟩ [] ⟨Dt.new ns.length (x 18) (x 19), 0, 0⟩ ∧ Below W1.heap.size W1 w' ∧ ∀ k, S k → W1.heap.size ≤ k) := fun W1 vl zs hl tw => by
    obtain ⟨ao', b', cap', hv, nd⟩ := tw.nodes hl (by omega) (fun q hq => Nat.le_trans (hps q hq) (by omega))
    exact ⟨ao', cap', hv, New_r W1.heap.size W1 st x ao' b' 0 cap' _ ns nd (Nat.le_refl _) hs he⟩
  have NU := hide fun w n => num_r w n
  have PU := hide (pu0 (c := ⟨st, x, ns⟩) he (by show st.size ≤ _; omega))
  have HT := hide hT
  clear hT he a1 a2 a3 a4 a5 a6 hps
  go_enter Tryz.func18, Tryz.ntmps18
  go_upto_region 1 with fail
  rw [← hW0]
  clear hW0
  go_wp2_with (refine wpList_loadCl rfl (.tmp 1) rfl w.heap.size st x _ rfl HX.out.cl ?_)
  refine Calls.mono CL.out ?_
  rintro e W1 ⟨vl, zs, rfl, hl, tw, hb1⟩
  obtain ⟨ao', cap', hv, NW1⟩ := NW.out W1 vl zs hl tw
  subst hv
  have B1 := hide (B0.out.trans (hb1.mono B0.out.size))
  have NW2 := hide NW1
  clear hl tw hb1 NW1 NW CL HX
  go_wp2_with fail
  refine Calls.mono NW2.out ?_
  rintro e W2 ⟨R, S, rfl, r2, b2, s2⟩
  have B2 := hide (B1.out.trans (b2.mono B1.out.size))
  have R2 := hide r2
  have S2 : Hid (∀ k, S k → w.heap.size ≤ k) := fun k q => Nat.le_trans B1.out.size (s2 k q)
  clear r2 b2 s2 NW2
  go_upto_region 4 with (go_at_call 8; refine Calls.mono (NU.out _ _) ?_; rintro e w' ⟨rfl, rfl⟩)
  obtain ⟨B, hB⟩ : ∃ B, B = W2.heap.size := ⟨_, rfl⟩
  obtain ⟨W3, hW3⟩ : ∃ W3, W3 = W2.alloc (.cells #[.pointer (some ⟨R, 0, none⟩), .slice none 0 0, .slice none 0 0, .slice none 0 0] 63) := ⟨_, rfl⟩
  have k3 : Kp W2 W3 non := by rw [hW3]; exact (Kp.refl W2 non).alloc _
  have b3 : W3.heap[B]? = some (.cells #[.pointer (some ⟨R, 0, none⟩), .slice none 0 0, .slice none 0 0, .slice none 0 0] 63) := by rw [hW3, hB]; exact heap_last _ _
  have B3 : Hid (Below w.heap.size w W3) := by rw [hW3]; exact B2.out.alloc B2.out.size _
  have D3 : Hid (DkAt W3 w.heap.size (fun j => j = B) B R dk0) := dk_new b3 (by rw [hB]; exact B2.out.size)
  have R3 := hide (R2.out.kp k3 (fun _ _ f => f))
  have T3 : Hid (TabD W3) := tab_kp HT.out (Kp.of_below B3.out non) (fun _ f => f.elim)
  have SG := hide (step_get (o := opF) (mm := getMg (gtF ⟨st, x, ns⟩)) (k := dk0) (v := rv0 ⟨st, x, ns⟩) (v' := { rv0 ⟨st, x, ns⟩ with last := 0 + 1 }) (gs' := [gtF ⟨st, x, ns⟩]) R3.out D3.out rfl B3.out.size (by decide) (fun X kx => Get_any (R3.out.kp kx (fun _ _ f => f)) PU.out.ok (tab_kp T3.out kx (fun _ f => f.elim)) (fun j q => Nat.le_trans h3 (S2.out j q)) (by show (0 : Int) ≤ 1000000000000000; decide) fst (by decide) (by show mayE 0 [fst] = 0; decide)) ⟨rfl, rfl, rfl⟩ (by decide) rfl (by decide))
  have HB := hide hB
  have BG : Hid (w.heap.size ≤ B) := by rw [hB]; exact B2.out.size
  clear k3 b3 hB PU D3 T3
  go_upto_region 5 with (refine wpList_blR rfl 63 _ rfl #[.pointer (some ⟨R, 0, none⟩), .slice none 0 0, .slice none 0 0, .slice none 0 0] (by kernel_rfl) ?_)
  rw [← hW3, ← HB.out]
  clear hW3
  go_wp2_with (refine wpList_blR rfl 60 _ rfl (opV opF) (by kernel_rfl) ?_)
  refine Calls.mono SG.out ?_
  rintro e W4 ⟨rfl, d4⟩
  obtain ⟨S', T', P', r4, g4, dk4, kp4, s4, t4⟩ := d4
  obtain ⟨vw, vk, vd, hx4, hT4⟩ := dk4
  have e4 : W4.cell? ⟨B, 2, none⟩ = some vk := by rw [cell_row hx4.blk]; rfl
  have fk4 := hx4.fk
  obtain ⟨ka, kc, hvk⟩ := own_sl (n := 1) fk4
  subst hvk
  have D4 : Hid (DkAt W4 w.heap.size T' B R (kF ⟨st, x, ns⟩)) := ⟨_, _, _, hx4, hT4⟩
  have R4 := hide r4
  have G4 := hide g4
  have C4 : Hid (W4.cell? ⟨B, 2, none⟩ = some (.slice ka 1 kc)) := e4
  have S4 : Hid (∀ j, S' j → w.heap.size ≤ j) := fun j q => by
    have := B3.out.size
    rcases s4 j q with q | q
    · exact S2.out j q
    · omega
  have B4 : Hid (Below w.heap.size w W4) := B3.out.trans ⟨kp4.os, kp4.tape, kp4.output, kp4.size, fun j hj => kp4.block j (Nat.lt_of_lt_of_le hj B3.out.size) (fun q => q.elim (fun q => by have := S2.out j q; omega) (fun q => by have := BG.out; omega))⟩
  clear hx4 hT4 e4 fk4 r4 g4 kp4 s4 t4 SG R3
  go_upto_region 6 with fail
  refine wp_region_held_drew (S := fun X => X.cell? ⟨B, 2, none⟩ = some (.slice ka 1 kc)) (by kernel_rfl) C4.out (fun hHeld => ?_)
  refine wpAnyH_take (i := 0) (v := (.pointer (some ⟨B, 0, none⟩))) rfl (by kernel_rfl) (by kernel_rfl) (by kernel_rfl) (fun _ _ _ h => h) (Or.inl ⟨by rfl, ?_⟩) (by assumption) ?_
  · intro w' hSw
    (try dsimp only at hSw)
    go_simp
  (try simp only [Act.put, List.getElem_toArray, List.getElem_cons_zero, List.getElem_cons_succ, List.setIfInBounds_toArray, List.set_cons_zero, List.set_cons_succ])
  refine wpAnyH_take (i := 1) (v := (.bool true)) rfl (by kernel_rfl) (by kernel_rfl) (by kernel_rfl) (fun _ _ _ h => h) (Or.inl ⟨by rfl, ?_⟩) (by assumption) ?_
  · intro w' hSw
    (try dsimp only at hSw)
    go_simp
  (try simp only [Act.put, List.getElem_toArray, List.getElem_cons_zero, List.getElem_cons_succ, List.setIfInBounds_toArray, List.set_cons_zero, List.set_cons_succ])
  refine wpAnyH_take (i := 2) (v := (.bool true)) rfl (by kernel_rfl) (by kernel_rfl) (by kernel_rfl) (fun _ _ _ h => h) (Or.inl ⟨by rfl, ?_⟩) (by assumption) ?_
  · intro w' hSw
    (try dsimp only at hSw)
    go_simp
  (try simp only [Act.put, List.getElem_toArray, List.getElem_cons_zero, List.getElem_cons_succ, List.setIfInBounds_toArray, List.set_cons_zero, List.set_cons_succ])
  refine wpAnyH_take (i := 3) (v := (.pointer (some ⟨B, 0, none⟩))) rfl (by kernel_rfl) (by kernel_rfl) (by kernel_rfl) (fun _ _ _ h => h) (Or.inl ⟨by kernel_rfl, ?_⟩) (by assumption) ?_
  · intro w' hSw
    (try dsimp only at hSw)
    go_simp
  (try simp only [Act.put, List.setIfInBounds_toArray, List.set_cons_zero, List.set_cons_succ])
  refine wpAnyH_take (i := 4) (v := (.pointer (some ⟨B, 0, none⟩))) rfl (by kernel_rfl) (by kernel_rfl) (by kernel_rfl) (fun _ _ _ h => h) (Or.inl ⟨by kernel_rfl, ?_⟩) (by assumption) ?_
  · intro w' hSw
    (try dsimp only at hSw)
    go_simp
  (try simp only [Act.put, List.setIfInBounds_toArray, List.set_cons_zero, List.set_cons_succ])
  refine wpAnyH_take (i := 5) (v := (.pointer (some ⟨B, 2, none⟩))) rfl (by kernel_rfl) (by kernel_rfl) (by kernel_rfl) (fun _ _ _ h => h) (Or.inl ⟨by kernel_rfl, ?_⟩) (by assumption) ?_
  · intro w' hSw
    (try dsimp only at hSw)
    go_simp
  (try simp only [Act.put, List.setIfInBounds_toArray, List.set_cons_zero, List.set_cons_succ])
  refine wpAnyH_take (i := 6) (v := (.slice ka 1 kc)) rfl (by kernel_rfl) (by kernel_rfl) (by kernel_rfl) (fun _ _ _ h => h) (Or.inl ⟨by kernel_rfl, ?_⟩) (by assumption) ?_
  · intro w' hSw
    (try dsimp only at hSw)
    go_simp
  (try simp only [Act.put, List.setIfInBounds_toArray, List.set_cons_zero, List.set_cons_succ])
  refine wpAnyH_take (i := 7) (v := (.int .i64 1)) rfl (by kernel_rfl) (by kernel_rfl) (by kernel_rfl) (fun _ _ _ h => h) (Or.inl ⟨by kernel_rfl, ?_⟩) (by assumption) ?_
  · intro w' hSw
    (try dsimp only at hSw)
    go_simp
  (try simp only [Act.put, List.setIfInBounds_toArray, List.set_cons_zero, List.set_cons_succ])
  refine wpAnyH_take (i := 8) (v := (.bool true)) rfl (by kernel_rfl) (by kernel_rfl) (by kernel_rfl) (fun _ _ _ h => h) (Or.inl ⟨by kernel_rfl, ?_⟩) (by assumption) ?_
  · intro w' hSw
    (try dsimp only at hSw)
    go_simp
  (try simp only [Act.put, List.setIfInBounds_toArray, List.set_cons_zero, List.set_cons_succ])
  refine wpAnyH_take (i := 9) (v := (.bool true)) rfl (by kernel_rfl) (by kernel_rfl) (by kernel_rfl) (fun _ _ _ h => h) (Or.inl ⟨by rfl, ?_⟩) (by assumption) ?_
  · intro w' hSw
    (try dsimp only at hSw)
    go_simp
  (try simp only [Act.put, List.getElem_toArray, List.getElem_cons_zero, List.getElem_cons_succ, List.setIfInBounds_toArray, List.set_cons_zero, List.set_cons_succ])
  refine wpAnyH_ready (rs := [10]) (by kernel_rfl) (by simp) ?_
  refine AllReadyH.cons rfl (fun K hK => ?_) AllReadyH.nil
  go_simp
  refine hK.out _ _ (C4.out) (fun hHeld => ?_)
  clear hK
  (try simp only [Act.put, List.setIfInBounds_toArray, List.set_cons_zero, List.set_cons_succ])
  refine wpAnyH_ready (rs := [11]) (by kernel_rfl) (by simp) ?_
  refine AllReadyH.cons rfl (fun K hK => ?_) AllReadyH.nil
  go_simp
  refine hK.out _ _ (C4.out) (fun hHeld => ?_)
  clear hK
  (try simp only [Act.put, List.setIfInBounds_toArray, List.set_cons_zero, List.set_cons_succ])
  refine wpAnyH_done (by kernel_rfl) ?_ _
  go_wp2_with fail
  go_ret2
  exact ⟨S', T', R, B, P', rfl, R4.out.kp ((Kp.refl W4 non).drew) (fun _ _ f => f), G4.out, D4.out.kp ((Kp.refl W4 non).drew) (fun _ _ f => f), B4.out.drew, S4.out⟩
end Go.Proofs.YtndfhpfhgdamgaaGreatDoor.Cn
namespace Go.Proofs.YtndfhpfhgdamgaaGreatDoor.Cn
open Go.RowKit
theorem cnt_idx : ∀ (L : List Bool), ((List.range L.length).filter fun i => L[i]? == some false).length = L.count false
  | [] => rfl
  | b :: r => by
    have ih := cnt_idx r
    rw [List.length_cons, List.range_succ_eq_map, List.filter_cons, List.filter_map, List.count_cons]
    have e : ((fun i => (b :: r)[i]? == some false) ∘ Nat.succ) = fun i => r[i]? == some false := by
      funext i
      simp
    rw [e]
    cases b
    · simp [ih]
    · simp [ih]
/-- as many gets are open as the desk has marks that are not set -/
theorem Inv.cnt {gs : List Gt} {v : Rv} {k : Dk} (h : Inv gs v k) (hs : (gs.map fun g => g.tk).Pairwise (· < ·)) : k.done.count false = gs.length := by
  rw [← cnt_idx]
  have nd1 : ((List.range k.done.length).filter fun i => k.done[i]? == some false).Nodup := List.Pairwise.filter _ List.nodup_range
  have nd2 : (gs.map fun g => (g.tk - 1).toNat).Nodup := by
    rw [List.nodup_iff_pairwise_ne, List.pairwise_map]
    rw [List.pairwise_map] at hs
    refine List.Pairwise.imp_of_mem ?_ hs
    intro a b ha hb q e
    have := h.opn a ha
    have := h.opn b hb
    omega
  have hp : ((List.range k.done.length).filter fun i => k.done[i]? == some false).Perm (gs.map fun g => (g.tk - 1).toNat) := by
    rw [List.perm_ext_iff_of_nodup nd1 nd2]
    intro i
    constructor
    · intro hi
      have := (List.mem_filter.1 hi).2
      obtain ⟨g, hg, e⟩ := h.cls i (by simpa using this)
      exact List.mem_map.2 ⟨g, hg, by omega⟩
    · intro hi
      obtain ⟨g, hg, e⟩ := List.mem_map.1 hi
      obtain ⟨a, b, c, d⟩ := h.opn g hg
      have hd := h.dl
      refine List.mem_filter.2 ⟨List.mem_range.2 (by omega), ?_⟩
      rw [← e, c]
      rfl
  rw [hp.length_eq, List.length_map]
theorem opens_eq : ∀ (L : List Bool), opens L = L.count false
  | [] => rfl
  | b :: r => by
    have ih := opens_eq r
    unfold opens at ih ⊢
    cases b <;> simp [ih]
theorem Inv.opens {gs : List Gt} {v : Rv} {k : Dk} (h : Inv gs v k) (hs : (gs.map fun g => g.tk).Pairwise (· < ·)) : opens k.done = gs.length := (opens_eq _).trans (h.cnt hs)
end Go.Proofs.YtndfhpfhgdamgaaGreatDoor.Cn
namespace Go.Proofs.YtndfhpfhgdamgaaGreatDoor.Cn
open Go.RowKit
/-- a step of a script -/
structure Sp where
  k : Int
  n : Int
  v : Int
  m : Mg
def spV (s : Sp) : Array Value := #[.int .i64 s.k, .int .i64 s.n, .int .i64 s.v, .int .i64 s.m.kind, .int .i64 s.m.fr, .int .i64 s.m.td, .int .i64 s.m.id, .int .i64 s.m.ep, .int .i64 s.m.sq, .int .i64 s.m.ver, .int .i64 s.m.prev, .int .i64 s.m.code, .string s.m.key, .string s.m.val]
/-- rows of k cells that are handed in -/
structure RwAt {α : Type} (k : Nat) (V : α → Array Value) (N : Nat) (w : World) (ao : Option Addr) (b o : Nat) (L : List α) : Prop where
  at0 : 0 < L.length → ao = some ⟨b, o, none⟩
  lt : 0 < L.length → b < N
  c : ∀ (q : Nat) (h : q < L.length) (j : Nat) (u : Value), (V L[q])[j]? = some u → w.cell? ⟨b, o + q * k + j, none⟩ = some u
  len : L.length ≤ 9223372036854775807
theorem RwAt.below {α : Type} {k : Nat} {V : α → Array Value} {N : Nat} {w w' : World} {ao : Option Addr} {b o : Nat} {L : List α} (h : RwAt k V N w ao b o L) (hb : Below N w w') : RwAt k V N w' ao b o L :=
  ⟨h.at0, h.lt, fun q hq j u hj => (hb.cell (h.lt (by omega))).trans (h.c q hq j u hj), h.len⟩
theorem sp_one (s : Sp) : (spV s).all (·.oneCell') = true := by simp [spV, Value.oneCell']
end Go.Proofs.YtndfhpfhgdamgaaGreatDoor.Cn
namespace Go.Proofs.YtndfhpfhgdamgaaGreatDoor.Cn
open Go.RowKit
/-- a step of the script, as it was handed in -/
def OpOk (w : World) (o : Op2) : Prop := (∃ ia lb lo lcap ks, o.l = .slice ia ks.length lcap ∧ KsAt w ia lb lo ks ∧ ks.length ≤ 8796093022200 ∧ lb < w.heap.size) ∧ o.s.size ≤ 9223372036854775807 ∧ tkOk o.n ∧ tkOk o.m.id
theorem OpOk.below {w w' : World} {o : Op2} (h : OpOk w o) (hb : Below w.heap.size w w') : OpOk w' o := by
  obtain ⟨⟨ia, lb, lo, lcap, ks, e1, e2, e3, e4⟩, q⟩ := h
  exact ⟨⟨ia, lb, lo, lcap, ks, e1, e2.kp (Kp.of_below hb non) (fun _ f => f), e3, Nat.lt_of_lt_of_le e4 hb.size⟩, q⟩
/-- router and desk behind n steps; in M ticks without an answer all gets have ended -/
def Std (w wr : World) (R B : Nat) (c : Cl) (n : Nat) (M : Int) : Prop := ∃ S T P v k, RtAt wr S R c P v ∧ DkAt wr w.heap.size T B R k ∧ Pu c (P.map (·.g)) v k n ∧ Below w.heap.size w wr ∧ (∀ j, S j → w.heap.size ≤ j) ∧ Lm (c.x 17) v.now M (P.map (·.g))
section
variable {w wr w' : World} {R B : Nat} {c : Cl} {n : Nat} {M : Int} {S T : Nat → Prop}
theorem Std.of_desk {gs' : List Gt} {v' : Rv} {k' : Dk} (hS : ∀ j, S j → w.heap.size ≤ j) (hT : ∀ j, T j → w.heap.size ≤ j) (hb : Below w.heap.size w wr) (d : Desk wr w' S T R w.heap.size B c gs' v' k') (pu : Pu c gs' v' k' n) (lm : Lm (c.x 17) v'.now M gs') : Std w w' R B c n M := by
  obtain ⟨S', T', P', r, rfl, dk, kp, s, t⟩ := d
  refine ⟨S', T', P', v', k', r, dk, pu, hb.trans ⟨kp.os, kp.tape, kp.output, kp.size, fun j hj => kp.block j (Nat.lt_of_lt_of_le hj hb.size) (fun q => q.elim (fun q => by have := hS j q; omega) (fun q => by have := hT j q; omega))⟩, fun j q => ?_, lm⟩
  rcases s j q with q | q
  · exact hS j q
  · have := hb.size
    omega
theorem Std.below (h : Std w wr R B c n M) : Below w.heap.size w wr := by
  obtain ⟨S, T, P, v, k, r, dk, pu, hb, hS, lm⟩ := h
  exact hb
theorem Std.drew (h : Std w wr R B c n M) : Std w wr.drew R B c n M := by
  obtain ⟨S, T, P, v, k, r, dk, pu, hb, hS, lm⟩ := h
  exact ⟨S, T, P, v, k, r.kp ((Kp.refl wr non).drew) (fun _ _ f => f), dk.kp ((Kp.refl wr non).drew) (fun _ _ f => f), pu, hb.drew, hS, lm⟩
theorem Std.cell (h : Std w wr R B c n M) : wr.cell? ⟨B, 0, none⟩ = some (.pointer (some ⟨R, 0, none⟩)) := by
  obtain ⟨S, T, P, v, k, r, ⟨vw, vk, vd, hx, hT⟩, pu, hb, hS, lm⟩ := h
  rw [cell_row hx.blk]
  rfl
theorem Std.step (h : Std w wr R B c n M) (hn : n ≤ 3000000000) (hT : TabD w) (h3 : 3 ≤ w.heap.size) {o : Op2} (ho : OpOk w o) :
    Calls Tryz.prog 19 #[.pointer (some ⟨B, 0, none⟩), .agg (opV o)] wr fun e w' => e = .returned (.bool true) ∧ Std w w' R B c (n + 1) (c.x 0 * c.x 17) := by
  obtain ⟨S, T, P, v, k, r, dk, pu, hb, hS, lm⟩ := h
  obtain ⟨⟨ia, lb, lo, lcap, ks, e1, e2, e3, e4⟩, q1, q2, q3⟩ := ho
  have hTg : ∀ j, T j → w.heap.size ≤ j := fun j q => (dk.kind q).1
  refine Calls.mono (step_any r dk pu hn hb.size (tab_kp hT (Kp.of_below hb non) (fun _ f => f.elim)) (fun j q => Nat.le_trans h3 (hS j q)) ia lb lo lcap ks e1 (e2.kp (Kp.of_below hb non) (fun _ f => f)) e3 (fun q => by have := hS lb q; omega) (fun q => by have := hTg lb q; omega) q1 q2 q3) ?_
  rintro e w' ⟨rfl, gs', v', k', p', d⟩
  exact ⟨rfl, Std.of_desk hS hTg hb d p' (Lm.start p'.ok p'.ok.wt.1)⟩
theorem Std.tick (h : Std w wr R B c n M) (hn : n ≤ 3000000000) :
    Calls Tryz.prog 21 #[.pointer (some ⟨B, 0, none⟩)] wr fun e w' => e = .returned (.bool true) ∧ Std w w' R B c (n + 1) (M - 1) := by
  obtain ⟨S, T, P, v, k, r, dk, pu, hb, hS, lm⟩ := h
  have hTg : ∀ j, T j → w.heap.size ≤ j := fun j q => (dk.kind q).1
  refine Calls.mono (tick_all r dk pu hn hb.size) ?_
  rintro e w' ⟨rfl, d⟩
  exact ⟨rfl, Std.of_desk hS hTg hb d pu.tick.1 (lm.tick pu.ok.srt)⟩
theorem Std.opens (h : Std w wr R B c n M) (hn : n ≤ 3000000000) : ∃ m : Nat, (M = 0 → m = 0) ∧ (Calls Tryz.prog 17 #[.pointer (some ⟨R, 0, none⟩)] wr fun e w' => e = .returned (.int .i64 (m : Int)) ∧ wr = w') ∧ Calls Tryz.prog 20 #[.pointer (some ⟨B, 0, none⟩)] wr fun e w' => e = .returned (.int .i64 (m : Int)) ∧ wr = w' := by
  obtain ⟨S, T, P, v, k, r, dk, pu, hb, hS, lm⟩ := h
  refine ⟨P.length, fun e => ?_, Open_any r, ?_⟩
  · rw [e] at lm
    have := lm.none pu.fr pu.ok pu.ok.wt.1
    simpa using this
  · have e := pu.inv.opens pu.ok.srt
    rw [List.length_map] at e
    have hd := pu.inv.dl
    have hk := pu.kl
    have D := dopen_any dk (by omega)
    rw [e] at D
    exact D
end
theorem seat_std (N : Nat) (w : World) (st : ByteArray) (x : Nat → Int) (ao : Option Addr) (b o cap : Nat) (pv : Nat → Value) (ns : List ND) (h : NsAt N w ao b o pv ns) (hN : N ≤ w.heap.size) (hs : st.size ≤ 281474976710656) (he : errP st x ns = 0) (hT : TabD w) (h3 : 3 ≤ w.heap.size) :
    Calls Tryz.prog 18 #[.agg (clA st x (.slice ao ns.length cap))] w fun e w' => ∃ R B, e = .returned (.tuple #[.pointer (some ⟨B, 0, none⟩), .bool true]) ∧ Std w w' R B ⟨st, x, ns⟩ 1 (x 0 * x 17) := by
  refine Calls.mono (seat_any N w st x ao b o cap pv ns h hN hs he hT h3) ?_
  rintro e w' ⟨S, T, R, B, P, rfl, r, hg, dk, hb, hS⟩
  have pu := (pu0 (c := ⟨st, x, ns⟩) he (by show st.size ≤ _; omega)).opened [fst] (by decide)
  have pu1 : Pu ⟨st, x, ns⟩ (P.map (·.g)) { rv0 ⟨st, x, ns⟩ with last := 0 + 1 } (kF ⟨st, x, ns⟩) 1 := by
    rw [hg]
    exact pu
  exact ⟨R, B, rfl, S, T, P, _, _, r, dk, pu1, hb, hS, Lm.start pu1.ok pu1.ok.wt.1⟩
end Go.Proofs.YtndfhpfhgdamgaaGreatDoor.Cn
namespace Go.Proofs.YtndfhpfhgdamgaaGreatDoor
open Go.RowKit
theorem exec_muli {ρ : Operand → Value} {op : Oper} {w : World} {a b : Int} {t2 : TypeId} (x y : Operand) (ho : op.op = .binOp .mul 3 x y t2) (hx : ρ x = .int .i64 a) (hy : ρ y = .int .i64 b) (h0 : -9223372036854775808 ≤ a * b) (h1 : a * b < 9223372036854775808) : (execOp ρ op).run Tryz.prog w = .ok (.value (.int .i64 (a * b))) w := by
  unfold execOp
  simp only [ho, hx, hy]
  go_simp
  exact i64_in h0 h1
theorem wpList_muli {w : World} {ops : Array Oper} {rest : List Oper} {op : Oper} {a : Act} {Q : Exit → Act → World → Prop} (hgd : op.guard = none) {t2 : TypeId} (x y : Operand) (ho : op.op = .binOp .mul 3 x y t2) (A B C : Int) (hx : a.eval x = .int .i64 A) (hy : a.eval y = .int .i64 B) (hC : A * B = C) (h0 : -9223372036854775808 ≤ C) (h1 : C < 9223372036854775808) (h : wpList Tryz.prog ops Q rest (a.put op.dst (.int .i64 C)) w) : wpList Tryz.prog ops Q (op :: rest) a w := by
  subst hC
  exact wpList_plain hgd fun _ hK => wp_exec (exec_muli x y ho hx hy h0 h1) (hK _ _ h)
theorem exec_quoi {ρ : Operand → Value} {op : Oper} {w : World} {a b : Int} {t2 : TypeId} (x y : Operand) (ho : op.op = .binOp .quo 3 x y t2) (hx : ρ x = .int .i64 a) (hy : ρ y = .int .i64 b) (ha : 0 ≤ a) (ha2 : a < 9223372036854775808) (hb : 0 < b) : (execOp ρ op).run Tryz.prog w = .ok (.value (.int .i64 (a / b))) w := by
  unfold execOp
  simp only [ho, hx, hy]
  have hq := Int.tdiv_eq_ediv_of_nonneg (a := a) (b := b) ha
  have hb0 : ¬ b = 0 := by omega
  have hb1 : ¬ b = -1 := by omega
  have q0 : 0 ≤ a / b := Int.ediv_nonneg ha (by omega)
  have q1 : a / b ≤ a := Int.ediv_le_self _ ha
  have e := i64_in (x := a / b) (by omega) (by omega)
  go_simp
  try exact e
  try exact wrap_in (by omega) (by omega)
theorem wpList_quoi {w : World} {ops : Array Oper} {rest : List Oper} {op : Oper} {a : Act} {Q : Exit → Act → World → Prop} (hgd : op.guard = none) {t2 : TypeId} (x y : Operand) (ho : op.op = .binOp .quo 3 x y t2) (A B C : Int) (hx : a.eval x = .int .i64 A) (hy : a.eval y = .int .i64 B) (hC : A / B = C) (ha : 0 ≤ A) (ha2 : A < 9223372036854775808) (hb : 0 < B) (h : wpList Tryz.prog ops Q rest (a.put op.dst (.int .i64 C)) w) : wpList Tryz.prog ops Q (op :: rest) a w := by
  subst hC
  exact wpList_plain hgd fun _ hK => wp_exec (exec_quoi x y ho hx hy ha ha2 hb) (hK _ _ h)
/-- one setting anew -/
def upd (x : Nat → Int) (i : Nat) (y : Int) : Nat → Int := fun j => if j = i then y else x j
theorem upd_at (x : Nat → Int) (i : Nat) (y : Int) : upd x i y i = y := by simp [upd]
theorem upd_ne (x : Nat → Int) {i j : Nat} (y : Int) (h : j ≠ i) : upd x i y j = x j := by simp [upd, h]
theorem vA_set (x : Nat → Int) (i : Nat) (y : Int) (h : i < 21) : (vA x).modify i (fun _ => .int .i64 y) = vA (upd x i y) := by
  have : i = 0 ∨ i = 1 ∨ i = 2 ∨ i = 3 ∨ i = 4 ∨ i = 5 ∨ i = 6 ∨ i = 7 ∨ i = 8 ∨ i = 9 ∨ i = 10 ∨ i = 11 ∨ i = 12 ∨ i = 13 ∨ i = 14 ∨ i = 15 ∨ i = 16 ∨ i = 17 ∨ i = 18 ∨ i = 19 ∨ i = 20 := by omega
  clear h
  rcases this with rfl | rfl | rfl | rfl | rfl | rfl | rfl | rfl | rfl | rfl | rfl | rfl | rfl | rfl | rfl | rfl | rfl | rfl | rfl | rfl | rfl <;> rfl
theorem vA_set2 (x : Nat → Int) (i : Nat) (y : Int) (h : i < 21) : (vA x).setIfInBounds i (.int .i64 y) = vA (upd x i y) := by
  have : i = 0 ∨ i = 1 ∨ i = 2 ∨ i = 3 ∨ i = 4 ∨ i = 5 ∨ i = 6 ∨ i = 7 ∨ i = 8 ∨ i = 9 ∨ i = 10 ∨ i = 11 ∨ i = 12 ∨ i = 13 ∨ i = 14 ∨ i = 15 ∨ i = 16 ∨ i = 17 ∨ i = 18 ∨ i = 19 ∨ i = 20 := by omega
  clear h
  rcases this with rfl | rfl | rfl | rfl | rfl | rfl | rfl | rfl | rfl | rfl | rfl | rfl | rfl | rfl | rfl | rfl | rfl | rfl | rfl | rfl | rfl <;> rfl
theorem built_cl (st : ByteArray) (x : Nat → Int) (ba : Option Addr) (n c : Nat) : Tryz.prog.built 24 [(0, .string st), (1, .int .i64 (x 0)), (2, .int .i64 (x 1)), (3, .int .i64 (x 2)), (4, .int .i64 (x 3)), (5, .int .i64 (x 4)), (6, .int .i64 (x 5)), (7, .int .i64 (x 6)), (8, .int .i64 (x 7)), (9, .int .i64 (x 8)), (10, .int .i64 (x 9)), (11, .int .i64 (x 10)), (12, .int .i64 (x 11)), (13, .int .i64 (x 12)), (14, .int .i64 (x 13)), (15, .int .i64 (x 14)), (16, .int .i64 (x 15)), (17, .int .i64 (x 16)), (18, .int .i64 (x 17)), (19, .int .i64 (x 18)), (20, .int .i64 (x 19)), (21, .int .i64 (x 20)), (22, .slice ba n c)] = some (clA st x (.slice ba n c)) := by kernel_rfl
theorem wpList_buildCl {w : World} {ops : Array Oper} {rest : List Oper} {o : Oper} {a : Act} {Q : Exit → Act → World → Prop} (hgd : o.guard = none) (y0 y1 y2 y3 y4 y5 y6 y7 y8 y9 y10 y11 y12 y13 y14 y15 y16 y17 y18 y19 y20 y21 y22 : Operand) (ho : o.op = .build 24 #[(0, y0), (1, y1), (2, y2), (3, y3), (4, y4), (5, y5), (6, y6), (7, y7), (8, y8), (9, y9), (10, y10), (11, y11), (12, y12), (13, y13), (14, y14), (15, y15), (16, y16), (17, y17), (18, y18), (19, y19), (20, y20), (21, y21), (22, y22)]) (st : ByteArray) (x : Nat → Int) (ba : Option Addr) (n c : Nat) (h0 : a.eval y0 = .string st) (h1 : a.eval y1 = .int .i64 (x 0)) (h2 : a.eval y2 = .int .i64 (x 1)) (h3 : a.eval y3 = .int .i64 (x 2)) (h4 : a.eval y4 = .int .i64 (x 3)) (h5 : a.eval y5 = .int .i64 (x 4)) (h6 : a.eval y6 = .int .i64 (x 5)) (h7 : a.eval y7 = .int .i64 (x 6)) (h8 : a.eval y8 = .int .i64 (x 7)) (h9 : a.eval y9 = .int .i64 (x 8)) (h10 : a.eval y10 = .int .i64 (x 9)) (h11 : a.eval y11 = .int .i64 (x 10)) (h12 : a.eval y12 = .int .i64 (x 11)) (h13 : a.eval y13 = .int .i64 (x 12)) (h14 : a.eval y14 = .int .i64 (x 13)) (h15 : a.eval y15 = .int .i64 (x 14)) (h16 : a.eval y16 = .int .i64 (x 15)) (h17 : a.eval y17 = .int .i64 (x 16)) (h18 : a.eval y18 = .int .i64 (x 17)) (h19 : a.eval y19 = .int .i64 (x 18)) (h20 : a.eval y20 = .int .i64 (x 19)) (h21 : a.eval y21 = .int .i64 (x 20)) (h22 : a.eval y22 = .slice ba n c)
    (h : wpList Tryz.prog ops Q rest (a.put o.dst (.agg (clA st x (.slice ba n c)))) w) : wpList Tryz.prog ops Q (o :: rest) a w := by
  refine wpList_plain hgd fun K hK => ?_
  unfold Oper.wp execOp
  simp only [ho, List.map_toArray, List.map_cons, List.map_nil, h0, h1, h2, h3, h4, h5, h6, h7, h8, h9, h10, h11, h12, h13, h14, h15, h16, h17, h18, h19, h20, h21, h22, Sem.run_bind, Sem.run_pure, Result.andThen_ok, run_build w 24 _ (clA st x (.slice ba n c)) (built_cl st x ba n c)]
  exact hK _ _ h
end Go.Proofs.YtndfhpfhgdamgaaGreatDoor
namespace Go.Proofs.YtndfhpfhgdamgaaGreatDoor.Cn
open Go.RowKit
set_option maxHeartbeats 16000000 in
set_option maxRecDepth 100000 in
set_option linter.unusedSimpArgs false in
set_option linter.unusedVariables false in
theorem beyond_any (w : World) (n : Int) : Calls Tryz.prog 7 #[.int .i64 n] w fun e w' => e = .returned (.bool (decide ((2147483647 : Int) < n))) ∧ w = w' := by
  go_enter Tryz.func7, Tryz.ntmps7
  go_wp2_with fail
  go_ret
  exact ⟨rfl, rfl⟩
theorem nm_size {t : ByteArray} (h : nmP t = true) : t.size ≤ 40 := by
  unfold nmP at h
  rw [Bool.and_eq_true] at h
  exact of_decide_eq_true h.1
set_option maxHeartbeats 16000000 in
set_option maxRecDepth 100000 in
set_option linter.unusedSimpArgs false in
set_option linter.unusedVariables false in
theorem truth_any (N : Nat) (w : World) (st : ByteArray) (x : Nat → Int) (ao : Option Addr) (b o cap : Nat) (pv : Nat → Value) (ns : List ND) (h : NsAt N w ao b o pv ns) (hN : N ≤ w.heap.size) (hs : st.size ≤ 9223372036854775807) (hT : TabD w) (h3 : 3 ≤ w.heap.size) (ao2 : Option Addr) (bb oo cap2 : Nat) (L : List Op2) (hL : RwAt 15 opV w.heap.size w ao2 bb oo L) (hO : ∀ i (hi : i < L.length), OpOk w L[i]) :
    Calls Tryz.prog 4 #[.agg (clA st x (.slice ao ns.length cap)), .slice ao2 L.length cap2] w fun e w' => e = .returned (.bool true) ∧ Below w.heap.size w w' := by
  obtain ⟨W0, hW0, hX⟩ := boxed st x cap h hN
  have HX := hide (hX.stand hN)
  have B0 := hide hX.bel
  clear hX h
  have BY := hide fun w n => beyond_any w n
  have NU := hide fun w n => num_r w n
  have CK := hide (YtndfhpfhgdamgaaGreatDoor.check_any N W0 st x ao b o cap pv ns HX.out.nd HX.out.le hs)
  have HT := hide hT
  have HLL := hide hL
  have HOO := hide hO
  obtain ⟨n, hn⟩ : ∃ n, n = L.length := ⟨_, rfl⟩
  have HN := hide hn
  have hlen := hL.len
  rw [← hn] at hlen ⊢
  clear hL hn hT hO
  go_enter Tryz.func4, Tryz.ntmps4
  go_upto_region 1 with fail
  rw [← hW0]
  clear hW0
  go_wp2_with fail
  refine Calls.mono (BY.out _ _) ?_
  rintro e w' ⟨rfl, rfl⟩
  by_cases hbe : (2147483647 : Int) < (n : Int)
  case pos =>
    have q0 : decide ((2147483647 : Int) < (n : Int)) = true := decide_eq_true hbe
    go_wp2_with fail
    go_ret
    exact ⟨rfl, B0.out⟩
  case neg =>
  have q0 : decide ((2147483647 : Int) < (n : Int)) = false := decide_eq_false hbe
  go_wp2_with (refine wpList_loadCl rfl (.tmp 2) rfl w.heap.size st x _ rfl HX.out.cl ?_)
  refine Calls.mono CK.out ?_
  rintro e W1 ⟨rfl, hb⟩
  have X1 := hide (HX.out.below hb)
  have B1 := hide (B0.out.trans (hb.mono B0.out.size))
  have RF := hide fun he => refused_any N W1 st x ao b o cap pv ns X1.out.nd X1.out.le hs he
  have h31 : Hid (3 ≤ W1.heap.size) := Nat.le_trans h3 B1.out.size
  have T1 : Hid (TabD W1) := tab_kp HT.out (Kp.of_below B1.out non) (fun _ f => f.elim)
  have O1 : Hid (∀ i (hi : i < L.length), OpOk W1 L[i]) := fun i hi => (HOO.out i hi).below B1.out
  have SE := hide fun he => seat_std N W1 st x ao b o cap pv ns X1.out.nd X1.out.le (by have := nm_size (errP_all he).1; omega) he T1.out h31.out
  have XL := hide fun he => And.intro (sfP_lim (errP_all (st := st) (x := x) (ns := ns) he).2.1 0 (by omega)) (sfP_lim (errP_all (st := st) (x := x) (ns := ns) he).2.1 17 (by omega))
  clear hb HX CK HT HOO
  generalize errP st x ns = er at *
  by_cases he : er = 0
  case neg =>
    have q1 : (er != 0) = true := by simp [he]
    have RF1 := hide (RF.out he)
    go_wp2_with (first | (go_at_call 8; refine Calls.mono (NU.out _ _) ?_; rintro e w' ⟨rfl, rfl⟩) | (refine wpList_loadCl rfl (.tmp 2) rfl w.heap.size st x _ rfl X1.out.cl ?_) | (go_at_call 10; refine Calls.mono RF1.out ?_; rintro e W2 ⟨rfl, hb2⟩; have B2 := hide (B1.out.trans (hb2.mono B1.out.size)); clear hb2))
    go_ret
    exact ⟨rfl, B2.out⟩
  case pos =>
  have q1 : (er != 0) = false := by simp [he]
  have SE1 := hide (SE.out he)
  have XL1 := hide (XL.out he)
  clear SE RF XL
  go_wp2_with (first | (go_at_call 8; refine Calls.mono (NU.out _ _) ?_; rintro e w' ⟨rfl, rfl⟩) | (refine wpList_loadCl rfl (.tmp 2) rfl w.heap.size st x _ rfl X1.out.cl ?_))
  refine Calls.mono SE1.out ?_
  rintro e W2 ⟨R, B, rfl, s2⟩
  have S2 := hide s2
  clear s2 SE1
  go_wp2_with fail
  go_loopw [6, 7] (fun vo vi wr => ∃ i : Nat, i ≤ n ∧ vi = .int .i64 (i : Int) ∧ vo = .bool true ∧ Hid (Std W1 wr R B ⟨st, x, ns⟩ (i + 1) (x 0 * x 17))) (fun _ vi _ => n - (intOf vi).toNat)
  case atStart => exact ⟨0, Nat.zero_le _, rfl, rfl, S2.out⟩
  case round =>
    obtain ⟨i, hi, rfl, rfl, HS⟩ := hrel
    by_cases hin : i < n
    case pos =>
      have hii : (i : Int) < (n : Int) := by omega
      have q2 : decide ((i : Int) < (n : Int)) = true := decide_eq_true hii
      have hiL : i < L.length := by rw [← HN.out]; exact hin
      have BR : Hid (Below w.heap.size w wr) := B1.out.trans (HS.out.below.mono B1.out.size)
      have e8 := HLL.out.at0 (by omega)
      have LB := HLL.out.below BR.out
      have RG : Hid (wr.rangeAt bb (oo + i * 15) (opV L[i]).toList) := fun j u' hj => LB.c i hiL j u' (by simpa using hj)
      have HC : Hid (∀ W4, Below w.heap.size w W4 → W4.cell? ⟨bb, oo + i * 15, none⟩ = some (.int .i64 L[i].kd)) := fun W4 b4 => (HLL.out.below b4).c i hiL 0 _ rfl
      have OK := hide (O1.out i hiL)
      obtain ⟨ev, hev⟩ : ∃ ev, ev = L[i] := ⟨_, rfl⟩
      rw [← hev] at RG HC OK
      clear hev LB hiL
      subst e8
      have SP := hide (HS.out.step (by omega) T1.out h31.out OK.out)
      go_wp2_with (refine wpList_load_mid rfl 60 (.tmp 33) rfl bb (oo + i * 15) rfl (opV ev).toList _ RG.out Tryz.underlying60 rfl op_info ?_)
      refine Calls.mono SP.out ?_
      rintro e W4 ⟨rfl, s4⟩
      have S4 := hide s4
      clear s4 SP RG
      have B4 : Hid (Below w.heap.size w W4) := B1.out.trans (S4.out.below.mono B1.out.size)
      have c4 := HC.out W4 B4.out
      obtain ⟨m, _, op, dp⟩ := S4.out.opens (by omega)
      have OP := hide op
      have DP := hide dp
      have cB := S4.out.cell
      clear HC op dp
      by_cases hk : ev.kd = 5
      case pos =>
        rw [hk] at c4
        go_wp2_with (first | (go_at_call 17; refine Calls.mono OP.out ?_; rintro e w' ⟨rfl, rfl⟩) | (go_at_call 20; refine Calls.mono DP.out ?_; rintro e w' ⟨rfl, rfl⟩))
        exact ⟨⟨i + 1, by omega, rfl, rfl, S4.out⟩, by simp [intOf]; omega⟩
      case neg =>
        have q3 : (ev.kd == 5) = false := by simp [hk]
        go_wp2_with fail
        exact ⟨⟨i + 1, by omega, rfl, rfl, S4.out⟩, by simp [intOf]; omega⟩
    case neg =>
      obtain rfl : i = n := by omega
      obtain ⟨m, _, op, dp⟩ := HS.out.opens (by omega)
      have OP := hide op
      have DP := hide dp
      have cB := HS.out.cell
      have BR : Hid (Below w.heap.size w wr) := B1.out.trans (HS.out.below.mono B1.out.size)
      clear op dp
      go_wp2_with (first | (go_at_call 17; refine Calls.mono OP.out ?_; rintro e w' ⟨rfl, rfl⟩) | (go_at_call 20; refine Calls.mono DP.out ?_; rintro e w' ⟨rfl, rfl⟩))
      go_ret
      exact ⟨rfl, BR.out⟩
end Go.Proofs.YtndfhpfhgdamgaaGreatDoor.Cn
