import Derived.Test.YtndfhpfhgdamgaaGreatDoorGRuOwn
namespace Go.Proofs.YtndfhpfhgdamgaaGreatDoor.Cn
open Go.RowKit
/-- texts that can be read -/
structure KsAt (w : World) (ao : Option Addr) (b o : Nat) (ks : List ByteArray) : Prop where
  at0 : 0 < ks.length → ao = some ⟨b, o, none⟩
  cell : ∀ i (h : i < ks.length), w.cell? ⟨b, o + i, none⟩ = some (.string ks[i])
  len : ks.length ≤ 1000000000000000
  sz : ∀ k ∈ ks, k.size ≤ 9223372036854775807
theorem KsAt.kp {w w' : World} {ao : Option Addr} {b o : Nat} {ks : List ByteArray} (h : KsAt w ao b o ks) {S : Nat → Prop} (hk : Kp w w' S) (hS : 0 < ks.length → ¬ S b) : KsAt w' ao b o ks :=
  ⟨h.at0, fun i hi => (hk.cell (World.block_lt_of_cell? w _ (h.cell i hi)) (hS (by omega))).trans (h.cell i hi), h.len, h.sz⟩
def badK (k : ByteArray) : Bool := decide (k.size = 0 ∨ 255 < k.size)
def mayE (n : Nat) (ks : List ByteArray) : Int := if ks.any badK then 32 else if 64 < n + ks.length then 170 else 0
theorem size_zero {k : ByteArray} (h : k.size = 0) : k = ⟨#[]⟩ := by
  cases k with
  | mk d =>
    have : d.size = 0 := h
    rw [Array.size_eq_zero_iff.1 this]
set_option maxHeartbeats 4000000 in
set_option maxRecDepth 100000 in
set_option linter.unusedSimpArgs false in
set_option linter.unusedVariables false in
theorem none_r {w : World} {S : Nat → Prop} {R : Nat} {c : Cl} {P : List Gp} {v : Rv} (h : RtAt w S R c P v) :
    Calls Tryz.prog 42 #[.pointer (some ⟨R, 0, none⟩)] w fun e w' => e = .returned (.bool false) ∧ w = w' := by
  obtain ⟨D, M, S1, Kb, ao, nb, no, ncap, pv, hx, hS⟩ := h
  have c23 := hx.cells.2.2.2.1
  clear hx hS
  go_enter Tryz.func42, Tryz.ntmps42
  go_wp2_with fail
  go_ret
  exact ⟨rfl, rfl⟩
set_option maxHeartbeats 4000000 in
set_option maxRecDepth 100000 in
set_option linter.unusedSimpArgs false in
set_option linter.unusedVariables false in
theorem none_rnil (w : World) : Calls Tryz.prog 42 #[.pointer none] w fun e w' => e = .returned (.bool true) ∧ w = w' := by
  go_enter Tryz.func42, Tryz.ntmps42
  go_wp2_with fail
  go_ret
  exact ⟨rfl, rfl⟩
theorem Mp.rlen {w : World} {M : Nat} {P : List Gp} (h : Mp IT w M (gtE P)) (ty : TypeId) : (Builtin.len_ #[83] ty #[.map (some M)]).run Tryz.prog w = .ok (.int .i64 (P.length : Int)) w := by
  obtain ⟨es, clock, hb, hr⟩ := h
  have hsz : es.size = P.length := by
    have := hr.pm.length_eq
    simpa [kvs, enL, gtE] using this
  have hm := hr.sz
  simp [Builtin.len_, run_underlying Tryz.underlying83, MapKept.run_getObj_map hb, hsz, goInt]
theorem any_take {f : ByteArray → Bool} {l : List ByteArray} {i : Nat} (h : i < l.length) : (l.take (i + 1)).any f = ((l.take i).any f || f l[i]) := by
  rw [List.take_succ_eq_append_getElem h, List.any_append]
  simp
set_option maxHeartbeats 8000000 in
set_option maxRecDepth 100000 in
set_option linter.unusedSimpArgs false in
set_option linter.unusedVariables false in
theorem mayOpen_any {w : World} {S : Nat → Prop} {R : Nat} {c : Cl} {P : List Gp} {v : Rv} (h : RtAt w S R c P v) (hP : P.length ≤ 1000000) (ao : Option Addr) (b o cap : Nat) (ks : List ByteArray) (hk : KsAt w ao b o ks) :
    Calls Tryz.prog 46 #[.pointer (some ⟨R, 0, none⟩), .slice ao ks.length cap] w fun e w' => e = .returned (.int .i64 (mayE P.length ks)) ∧ w = w' := by
  have NO := hide (none_r h)
  obtain ⟨D, M, S1, Kb, ao', nb, no, ncap, pv, hx, hS⟩ := h
  have c26 := hx.cells.2.2.2.2.2.2
  have LN := hx.map.rlen 3
  have hl := hk.len
  have KS := hide hk
  have HM : Hid (mayE P.length ks = if ks.any badK then 32 else if 64 < P.length + ks.length then 170 else 0) := rfl
  generalize mayE P.length ks = me at *
  generalize P.length = pn at *
  clear hx hS hk
  go_enter Tryz.func46, Tryz.ntmps46
  go_wp2_with fail
  refine Calls.mono NO.out ?_
  rintro e W1 ⟨rfl, rfl⟩
  clear NO
  go_wp2_with fail
  go_loopw [6, 11] (fun _ vi wr => w = wr ∧ ∃ (i : Nat), i ≤ ks.length ∧ vi = .int .i64 (i : Int) ∧ Hid ((ks.take i).any badK = false)) (fun _ vi _ => ks.length - (intOf vi).toNat)
  case atStart => exact ⟨rfl, 0, Nat.zero_le _, rfl, rfl⟩
  case round =>
    obtain ⟨rfl, i, hi, rfl, HC⟩ := hrel
    by_cases hin : i < ks.length
    case pos =>
      have hii : (i : Int) < (ks.length : Int) := by omega
      have c1 := KS.out.cell i hin
      obtain rfl := KS.out.at0 (by omega)
      have hsz := KS.out.sz ks[i] (List.getElem_mem hin)
      have HT := any_take (f := badK) hin
      have HB : Hid (badK ks[i] = true → ks.any badK = true) := fun q => List.any_eq_true.2 ⟨ks[i], List.getElem_mem hin, q⟩
      have HQ : Hid (badK ks[i] = decide (ks[i].size = 0 ∨ 255 < ks[i].size)) := rfl
      generalize ks[i] = key at *
      by_cases h0 : key.size = 0
      · have hz := size_zero h0
        subst hz
        go_wp2_with fail
        go_ret
        exact ⟨by rw [HM.out, HB.out (by rw [HQ.out]; decide), if_pos rfl]; rfl, rfl⟩
      · have hne : (key.toList == (⟨#[]⟩ : ByteArray).toList) = false := by
          rw [eq_beq]
          exact decide_eq_false (fun e => h0 (by rw [e]; rfl))
        have hnil : (⟨#[]⟩ : ByteArray).toList = [] := by kernel_rfl
        rw [hnil] at hne
        have hne3 : ¬ key.toList = [] := fun e => by rw [e] at hne; simp at hne
        have hne2 : key.toList.isEmpty = false := by
          cases hk : key.toList with
          | nil => exact absurd hk hne3
          | cons a r => rfl
        by_cases h1 : 255 < key.size
        · have h1' : (255 : Int) < (key.size : Int) := by omega
          go_wp2_with fail
          go_ret
          exact ⟨by rw [HM.out, HB.out (by rw [HQ.out]; exact decide_eq_true (Or.inr h1)), if_pos rfl]; rfl, rfl⟩
        · have h1' : ¬ (255 : Int) < (key.size : Int) := by omega
          go_wp2_with fail
          go_roundw
          case rel => exact ⟨by first | trivial | rfl, i + 1, by omega, by go_num, by rw [HT, HC.out, HQ.out, decide_eq_false (by omega)]; exact rfl⟩
          case measure => simp [intOf]; omega
    case neg =>
      obtain rfl : i = ks.length := by omega
      have HC' := HC.out
      rw [List.take_length] at HC'
      have hw := wrap_in (x := (pn : Int) + (ks.length : Int)) (by omega) (by omega)
      by_cases h64 : 64 < pn + ks.length
      · have h64' : (64 : Int) < (pn : Int) + (ks.length : Int) := by omega
        have HMM : Hid (me = 170) := by rw [HM.out, HC', if_neg (by decide), if_pos h64]; exact rfl
        clear HC' HC HM
        go_wp2_with fail
        go_ret
        exact ⟨by rw [HMM.out]; rfl, rfl⟩
      · have h64' : ¬ (64 : Int) < (pn : Int) + (ks.length : Int) := by omega
        have HMM : Hid (me = 0) := by rw [HM.out, HC', if_neg (by decide), if_neg h64]; exact rfl
        clear HC' HC HM
        go_wp2_with fail
        go_ret
        exact ⟨by rw [HMM.out]; rfl, rfl⟩
end Go.Proofs.YtndfhpfhgdamgaaGreatDoor.Cn
namespace Go.Proofs.YtndfhpfhgdamgaaGreatDoor.Cn
open Go.RowKit
theorem eqf_perm {K : Int → Int} {d e : List Int} (h : EqF K d e) : d.Perm e := by
  rw [List.perm_iff_count]
  intro a
  have h1 : (d.filter fun x => K x == K a).count a = d.count a := List.count_filter (by simp)
  have h2 : (e.filter fun x => K x == K a).count a = e.count a := List.count_filter (by simp)
  rw [← h1, ← h2, h (K a)]
theorem ord_perm {d : Dt} (hf : d.fits) (hb : d.enb) (ns : List Int) : (ordL d ns).Perm ns := (eqf_perm (ord_eqf hf.t0 hb (by have := hf.b1; omega) ns)).symm
theorem ord_ok {c : Cl} {d : Dt} (he : errP c.st c.x c.ns = 0) (hf : d.fits) (hb : d.enb) (key : ByteArray) : ((ordL d (baseOf c key)).length : Int) = c.x 0 ∧ (∀ k ∈ ordL d (baseOf c key), 0 ≤ k ∧ k < (c.ns.length : Int)) ∧ (ordL d (baseOf c key)).Nodup := by
  obtain ⟨a1, a2, a3⟩ := base_ok he key
  have hp := ord_perm hf hb (baseOf c key)
  exact ⟨by rw [← a1]; exact congrArg _ hp.length_eq, fun k hk => a2 k (hp.mem_iff.1 hk), hp.nodup_iff.2 a3⟩
noncomputable def opG (c : Cl) (v : Rv) : List ByteArray → Int → List Gt
  | [], _ => []
  | k :: r, t => ⟨t, k, ordL v.d (baseOf c k), 1, v.now⟩ :: opG c v r (t + 1)
theorem opG_app (c : Cl) (v : Rv) (k : ByteArray) : ∀ (l : List ByteArray) (t : Int), opG c v (l ++ [k]) t = opG c v l t ++ [⟨t + (l.length : Int), k, ordL v.d (baseOf c k), 1, v.now⟩]
  | [], t => by simp [opG]
  | a :: l, t => by
    show _ :: opG c v (l ++ [k]) (t + 1) = _
    rw [opG_app c v k l (t + 1), List.length_cons, show t + 1 + (l.length : Int) = t + ((l.length + 1 : Nat) : Int) by omega]
    rfl
theorem opG_len (c : Cl) (v : Rv) : ∀ (l : List ByteArray) (t : Int), (opG c v l t).length = l.length
  | [], _ => rfl
  | a :: l, t => by
    show (_ :: opG c v l (t + 1)).length = _
    rw [List.length_cons, opG_len c v l (t + 1), List.length_cons]
theorem opG_tk (c : Cl) (v : Rv) : ∀ (l : List ByteArray) (t : Int), ∀ g ∈ opG c v l t, t ≤ g.tk ∧ g.tk < t + (l.length : Int)
  | [], _, g, hg => by simp [opG] at hg
  | a :: l, t, g, hg => by
    rcases List.mem_cons.1 hg with rfl | hg
    · simp only [List.length_cons]; omega
    · have := opG_tk c v l (t + 1) g hg
      simp only [List.length_cons]; omega
/-- a router as it must be -/
structure Ok (c : Cl) (gs : List Gt) (v : Rv) (m : Nat) : Prop where
  err : errP c.st c.x c.ns = 0
  st : c.st.size ≤ 9223372036854775807
  up : v.d.upto m
  enb : v.d.enb
  dn : v.d.n = c.ns.length
  now0 : 0 ≤ v.now
  last0 : 0 ≤ v.last
  tks : ∀ g ∈ gs, 1 ≤ g.tk ∧ g.tk ≤ v.last
  srt : (gs.map fun g => g.tk).Pairwise (· < ·)
  ask : ∀ g ∈ gs, 1 ≤ g.asked ∧ g.asked ≤ g.ow.length ∧ (g.ow.length : Int) = c.x 0
  own : ∀ g ∈ gs, (∀ k ∈ g.ow, 0 ≤ k ∧ k < (c.ns.length : Int)) ∧ g.ow.Nodup
  sin : ∀ g ∈ gs, 0 ≤ g.since ∧ g.since ≤ v.now
  len : gs.length ≤ 64
theorem askdP_last {P : List Gp} {p : Gp} {now : Int} (h : ∀ q ∈ P, q.g.tk ≠ p.g.tk) : askdP (P ++ [p]) p.g.tk now = P ++ [{ p with g := askG now p.g }] := by
  unfold askdP
  rw [List.map_append]
  congr 1
  · refine (List.map_congr_left fun q hq => ?_).trans (List.map_id P)
    rw [if_neg (h q hq)]
    rfl
  · simp
set_option maxHeartbeats 16000000 in
set_option maxRecDepth 100000 in
set_option linter.unusedSimpArgs false in
set_option linter.unusedVariables false in
theorem GetAll_any {w : World} {S : Nat → Prop} {R : Nat} {c : Cl} {P : List Gp} {v : Rv} {m : Nat} (h : RtAt w S R c P v) (hok : Ok c (P.map (·.g)) v m) (hT : TabD w) (hG : ∀ k, S k → 3 ≤ k) (hl : v.last ≤ 1000000000000000) (ao : Option Addr) (b o cap : Nat) (ks : List ByteArray) (hk : KsAt w ao b o ks) (hkS : 0 < ks.length → ¬ S b) (h0 : mayE P.length ks = 0) (hn : ks ≠ []) :
    Calls Tryz.prog 23 #[.pointer (some ⟨R, 0, none⟩), .slice ao ks.length cap] w fun e w' => ∃ S' P' vo, e = .returned (.tuple #[.int .i64 (v.last + 1), vo, .int .i64 0]) ∧ RtAt w' S' R c P' { v with last := v.last + (ks.length : Int) } ∧ P'.map (·.g) = P.map (·.g) ++ opG c v ks (v.last + 1) ∧ w'.ownsRow w.heap.size 58 11 vo (opG c v ks (v.last + 1)).length (mgs ((opG c v ks (v.last + 1)).map getMg)) ∧ Kp w w' S ∧ ∀ k, S' k → S k ∨ w.heap.size ≤ k := by
  have hPl : P.length ≤ 64 := by have := hok.len; rwa [List.length_map] at this
  have MO := hide (mayOpen_any h (by omega) ao b o cap ks hk)
  rw [h0] at MO
  have hbad : ∀ k ∈ ks, ¬ (k.size = 0 ∨ 255 < k.size) := fun k hk' q => by
    unfold mayE at h0
    rw [if_pos (List.any_eq_true.2 ⟨k, hk', decide_eq_true q⟩)] at h0
    omega
  have hkl : P.length + ks.length ≤ 64 := by
    unfold mayE at h0
    split at h0
    · omega
    · split at h0
      · omega
      · omega
  have c25 : w.cell? ⟨R, 25, none⟩ = some (.int .i64 v.last) := by
    obtain ⟨D, M, S1, Kb, ao', nb, no, ncap, pv, hx, hS⟩ := h
    exact hx.cells.2.2.2.2.2.1
  have l0 := hok.last0
  have ew := wrap_in (x := v.last + 1) (by omega) (by omega)
  have hkn : 0 < ks.length := List.length_pos_iff.2 hn
  have hne0 : ((ks.length : Int) == 0) = false := by simp; omega
  have hne1 : (ks.length == 0) = false := by simp; omega
  have hne2 : ¬ ks.length = 0 := by omega
  obtain ⟨Nb, hNb⟩ : ∃ Nb, Nb = w.heap.size := ⟨_, rfl⟩
  obtain ⟨W0, hW0⟩ : ∃ W0, W0 = w.alloc (.cells #[.slice none 0 0, .slice none 0 0] 102) := ⟨_, rfl⟩
  have k0 : Kp w W0 non := by rw [hW0]; exact (Kp.refl w non).alloc _
  have H0 := hide (h.kp k0 (fun _ _ f => f))
  have N0 : Hid (NwAt W0 Nb (NwS Nb (.slice none 0 0) (.slice none 0 0)) Nb [] []) := ⟨_, _, ⟨by rw [hW0, hNb]; exact heap_last _ _, Nat.le_refl _, World.ownsRow_nil _ _ _ _, World.ownsRow_nil _ _ _ _⟩, fun _ => Iff.rfl⟩
  have K0 : Hid (Kp w W0 S) := k0.mono (fun _ f => f.elim)
  have KS := hide hk
  have HKS := hide hkS
  have HOK := hide hok
  have HT := hide hT
  have HG := hide hG
  have HBAD := hide hbad
  have HNb := hide hNb
  obtain ⟨rfl, hao⟩ : ao = some ⟨b, o, none⟩ ∧ True := ⟨hk.at0 hkn, trivial⟩
  have OP : Hid (∀ (X : World) (S' : Nat → Prop) (P' : List Gp) (i : Nat) (hi : i < ks.length), RtAt X S' R c P' { v with last := v.last + (i : Int) } → P'.map (·.g) = P.map (·.g) ++ opG c v (ks.take i) (v.last + 1) → Kp w X S → (∀ k, S' k → S k ∨ w.heap.size ≤ k) → Calls Tryz.prog 48 #[.pointer (some ⟨R, 0, none⟩), .string ks[i]] X fun e w' => ∃ b gg S2, e = .returned (.pointer (some ⟨b, 0, none⟩)) ∧ RtAt w' S2 R c (P' ++ [⟨⟨v.last + (i : Int) + 1, ks[i], ordL v.d (baseOf c ks[i]), 0, 0⟩, b, gg⟩]) { v with last := v.last + (i : Int) + 1 } ∧ Kp X w' S' ∧ ∀ k, S2 k → S' k ∨ X.heap.size ≤ k) := fun X S' P' i hi hX hP' hKX hS' => by
    have hg' : ∀ g ∈ P'.map (·.g), g.tk ≤ v.last + (i : Int) := fun g hg => by
      rw [hP'] at hg
      rcases List.mem_append.1 hg with q | q
      · have := (hok.tks g q).2; omega
      · have := opG_tk c v _ _ g q
        rw [List.length_take] at this
        omega
    have hlen : P'.length ≤ 64 := by
      have := congrArg List.length hP'
      rw [List.length_map, List.length_append, List.length_map, opG_len, List.length_take] at this
      omega
    exact open_any hX (tab_kp hT hKX hG) hok.err hok.st ks[i] (hbad _ (List.getElem_mem hi)) hok.up.ft hok.enb hok.dn (by show 0 ≤ v.last + _; omega) (by show v.last + _ ≤ _; omega) (fun p hp => hg' p.g (List.mem_map.2 ⟨p, hp, rfl⟩)) (by omega) (fun k q => by
      rcases hS' k q with q | q
      · exact hG k q
      · have := hT.sz; omega)
  have B16 : Hid (∀ k, (ordL v.d (baseOf c k)).length ≤ 300 ∧ 0 < (ordL v.d (baseOf c k)).length) := fun k => by
    obtain ⟨_, _, _, x1, x2, _⟩ := owns_ok hok.err k
    have := (ord_ok hok.err hok.up.ft hok.enb k).1
    omega
  have GO : Hid (∀ (X : World) (S' N' : Nat → Prop) (P' : List Gp) (v' : Rv) (p : Gp) (L : List Mg), RtAt X S' R c (P' ++ [p]) v' → NwAt X Nb N' Nb L [] → L.length ≤ 64 → tkOk p.g.tk → Nb ≤ X.heap.size → p.g.asked = 0 → 0 < p.g.ow.length → p.g.ow.length ≤ 300 → (∀ q ∈ P', q.g.tk ≠ p.g.tk) → Calls Tryz.prog 47 #[.pointer (some ⟨R, 0, none⟩), .pointer (some ⟨p.b, 0, none⟩), .pointer (some ⟨Nb, 0, none⟩)] X fun e w' => e = .returned (.tuple #[]) ∧ Left X w' S' N' R Nb Nb c (P' ++ [{ p with g := askG v'.now p.g }]) v' (L ++ [getMg (askG v'.now p.g)]) []) := fun X S' N' P' v' p L hX hN hL ht hb' ha hw1 hw2 hne => by
    have := goOn_any hX (List.mem_append_right _ (List.mem_singleton.2 rfl)) hN (by omega) (by simp) ht hb' (by omega) hw2
    unfold goP goM goE at this
    rw [if_neg (by omega), if_neg (by omega), if_neg (by omega), List.append_nil, askdP_last hne] at this
    exact this
  obtain ⟨GS, hGS⟩ : ∃ GS : Nat → List Gt, GS = fun i => opG c v (ks.take i) (v.last + 1) := ⟨_, rfl⟩
  have HGS : Hid (∀ i, GS i = opG c v (ks.take i) (v.last + 1)) := fun i => by rw [hGS]
  have HG1 : Hid (∀ i (hi : i < ks.length), GS (i + 1) = GS i ++ [⟨v.last + (i : Int) + 1, ks[i], ordL v.d (baseOf c ks[i]), 1, v.now⟩]) := fun i hi => by
    rw [hGS]
    show opG c v (ks.take (i + 1)) _ = _
    rw [List.take_succ_eq_append_getElem hi, opG_app, List.length_take, show v.last + 1 + ((min i ks.length : Nat) : Int) = v.last + (i : Int) + 1 by omega]
  have HGE : Hid (opG c v ks (v.last + 1) = GS ks.length) := by rw [hGS]; show _ = opG c v (ks.take ks.length) _; rw [List.take_length]
  have HGL : Hid (∀ i, (GS i).length ≤ 64) := fun i => by rw [hGS]; show (opG _ _ _ _).length ≤ _; rw [opG_len, List.length_take]; omega
  have HG0 : Hid (GS 0 = []) := by rw [hGS]; rfl
  have HTK : Hid (∀ i, i < ks.length → ∀ g ∈ P.map (·.g) ++ GS i, g.tk ≠ v.last + (i : Int) + 1) := fun i hi g hg => by
    rw [hGS] at hg
    rcases List.mem_append.1 hg with q | q
    · have := (hok.tks g q).2; omega
    · have := opG_tk c v _ _ g q
      rw [List.length_take] at this
      omega
  rw [HGE.out]
  have OP' : Hid (∀ (X : World) (S' : Nat → Prop) (P' : List Gp) (i : Nat) (hi : i < ks.length), RtAt X S' R c P' { v with last := v.last + (i : Int) } → P'.map (·.g) = P.map (·.g) ++ GS i → Kp w X S → (∀ k, S' k → S k ∨ w.heap.size ≤ k) → Calls Tryz.prog 48 #[.pointer (some ⟨R, 0, none⟩), .string ks[i]] X fun e w' => ∃ b gg S2, e = .returned (.pointer (some ⟨b, 0, none⟩)) ∧ RtAt w' S2 R c (P' ++ [⟨⟨v.last + (i : Int) + 1, ks[i], ordL v.d (baseOf c ks[i]), 0, 0⟩, b, gg⟩]) { v with last := v.last + (i : Int) + 1 } ∧ Kp X w' S' ∧ ∀ k, S2 k → S' k ∨ X.heap.size ≤ k) := fun X S' P' i hi a1 a2 a3 a4 => OP.out X S' P' i hi a1 (by rw [a2, hGS]) a3 a4
  have la1 : Hid (v.last ≤ 1000000000000000 ∧ 0 ≤ v.last) := ⟨hl, l0⟩
  have hkl2 : ks.length ≤ 64 := by omega
  clear hbad hkS hT hG h0 OP hGS hok hk
  go_enter Tryz.func23, Tryz.ntmps23
  go_wp2_with fail
  refine Calls.mono MO.out ?_
  rintro e W1 ⟨rfl, rfl⟩
  clear MO h
  go_upto_region 5 with fail
  clear c25
  go_upto_region 6 with fail
  rw [← hW0, ← HNb.out]
  clear hW0 hNb k0
  go_wp2_with fail
  go_loopw [11, 30] (fun _ vi wr => ∃ (i : Nat), i ≤ ks.length ∧ vi = .int .i64 (i : Int) ∧ ∃ (S' N' : Nat → Prop) (P' : List Gp), RtAt wr S' R c P' { v with last := v.last + (i : Int) } ∧ P'.map (·.g) = P.map (·.g) ++ GS i ∧ NwAt wr Nb N' Nb ((GS i).map getMg) [] ∧ Kp w wr S ∧ (∀ k, S' k → S k ∨ w.heap.size ≤ k)) (fun _ vi _ => ks.length - (intOf vi).toNat)
  case atStart =>
    refine ⟨0, Nat.zero_le _, rfl, S, _, P, ?_, by rw [HG0.out, List.append_nil], by rw [HG0.out]; exact N0.out, K0.out, fun k q => Or.inl q⟩
    have : ({ v with last := v.last + ((0 : Nat) : Int) } : Rv) = v := by cases v; simp
    rw [this]
    exact H0.out
  case round =>
    obtain ⟨i, hi, rfl, S', N', P', hR, hP', hN', hK', hS'⟩ := hrel
    have HR := hide hR
    have HP' := hide hP'
    have HN' := hide hN'
    have HK' := hide hK'
    have HS' := hide hS'
    clear hR hP' hN' hK' hS'
    by_cases hin : i < ks.length
    case pos =>
      have hii : (i : Int) < (ks.length : Int) := by omega
      have cK := (KS.out.kp HK'.out HKS.out).cell i hin
      have OPi := hide (OP'.out wr S' P' i hin HR.out HP'.out HK'.out HS'.out)
      have G1 := hide (HG1.out i hin)
      have TK := hide (HTK.out i hin)
      have B1 := hide (B16.out ks[i])
      generalize ks[i] = key at *
      go_wp2_with fail
      refine Calls.mono OPi.out ?_
      rintro e W2 ⟨bb, gg, S2, rfl, hR2, hK2, hS2⟩
      have n2 := HN'.out.kp hK2 (fun k hk q => HR.out.apart HN'.out k q hk)
      have GOi := hide (GO.out W2 S2 N' P' _ _ _ hR2 n2 (by rw [List.length_map]; exact HGL.out i) (by have := la1.out; unfold tkOk; show _ ≤ v.last + (i : Int) + 1 ∧ v.last + (i : Int) + 1 < _; omega) (by have := HK'.out.size; have := hK2.size; rw [HNb.out]; omega) rfl B1.out.2 B1.out.1 (fun q hq => by show q.g.tk ≠ v.last + (i : Int) + 1; exact TK.out q.g (by rw [← HP'.out]; exact List.mem_map.2 ⟨q, hq, rfl⟩)))
      have K2 : Hid (Kp w W2 S) := HK'.out.trans hK2 (fun k q => HS'.out k q)
      have S2' : Hid (∀ k, S2 k → S k ∨ w.heap.size ≤ k) := fun k q => by
        rcases hS2 k q with q | q
        · exact HS'.out k q
        · exact Or.inr (Nat.le_trans HK'.out.size q)
      clear hR2 hK2 hS2 n2 OPi
      go_wp2_with fail
      refine Calls.mono GOi.out ?_
      rintro e W3 ⟨rfl, S3, N3, hR3, hN3, hK3, hS3, hN3'⟩
      have HR3 := hide hR3
      have HN3 := hide hN3
      have K3 : Hid (Kp w W3 S) := K2.out.trans hK3 (fun k q => by
        rcases q with q | q
        · exact S2'.out k q
        · obtain ⟨ge, _⟩ := HN'.out.kind q
          exact Or.inr (by rw [← HNb.out]; exact ge))
      have S3' : Hid (∀ k, S3 k → S k ∨ w.heap.size ≤ k) := fun k q => S2'.out k (hS3 k q)
      clear hR3 hN3 hK3 hS3 hN3' GOi
      go_wp2_with fail
      go_roundw
      case rel =>
        refine ⟨i + 1, by omega, by go_num, S3, N3, P' ++ [⟨askG v.now ⟨v.last + (i : Int) + 1, key, ordL v.d (baseOf c key), 0, 0⟩, bb, gg⟩], ?_, ?_, ?_, K3.out, S3'.out⟩
        · have e : ({ v with last := v.last + ((i + 1 : Nat) : Int) } : Rv) = { v with last := v.last + (i : Int) + 1 } := by
            congr 1
            omega
          rw [e]
          exact HR3.out
        · rw [List.map_append, HP'.out, G1.out, List.append_assoc]
          rfl
        · rw [G1.out, List.map_append]
          exact HN3.out
      case measure => simp [intOf]; omega
    case neg =>
      obtain rfl : i = ks.length := by omega
      obtain ⟨vo, ve, nx, hN⟩ := HN'.out
      have o0 : wr.cell? ⟨Nb, 0, none⟩ = some vo := by rw [cell_row nx.blk]; rfl
      obtain ⟨oa, oc, hvo⟩ := own_sl nx.out
      subst hvo
      have NX := hide nx
      clear nx hN
      go_upto_region 11 with fail
      go_quiet (fail)
      go_wp2_with fail
      go_ret3
      have kd := (Kp.refl wr non).drewN nq
      refine ⟨S', P', _, rfl, HR.out.kp kd (fun _ _ f => f), HP'.out, ?_, HK'.out.drewN nq, HS'.out⟩
      have := own_kp NX.out.out kd (fun _ _ f => f)
      rw [List.length_map, HNb.out] at this
      exact this
set_option maxHeartbeats 8000000 in
set_option maxRecDepth 100000 in
set_option linter.unusedSimpArgs false in
set_option linter.unusedVariables false in
theorem GetAll_no {w : World} {S : Nat → Prop} {R : Nat} {c : Cl} {P : List Gp} {v : Rv} (h : RtAt w S R c P v) (hP : P.length ≤ 1000000) (ao : Option Addr) (b o cap : Nat) (ks : List ByteArray) (hk : KsAt w ao b o ks) (h0 : mayE P.length ks ≠ 0 ∨ ks = []) :
    Calls Tryz.prog 23 #[.pointer (some ⟨R, 0, none⟩), .slice ao ks.length cap] w fun e w' => e = .returned (.tuple #[.int .i64 0, .slice none 0 0, .int .i64 (mayE P.length ks)]) ∧ w = w' := by
  have MO := hide (mayOpen_any h hP ao b o cap ks hk)
  generalize mayE P.length ks = me at *
  have hl := hk.len
  by_cases hm : me = 0
  · subst hm
    rcases h0 with h0 | rfl
    · exact absurd rfl h0
    · clear hk h
      go_enter Tryz.func23, Tryz.ntmps23
      go_wp2_with fail
      refine Calls.mono MO.out ?_
      rintro e W1 ⟨rfl, rfl⟩
      go_wp2_with fail
      go_ret3
      exact ⟨rfl, rfl⟩
  · have q1 : (me == 0) = false := by simp [hm]
    have q2 : (me != 0) = true := by simp [hm]
    clear hk h h0
    go_enter Tryz.func23, Tryz.ntmps23
    go_wp2_with fail
    refine Calls.mono MO.out ?_
    rintro e W1 ⟨rfl, rfl⟩
    go_wp2_with fail
    go_ret3
    exact ⟨rfl, rfl⟩
set_option maxHeartbeats 8000000 in
set_option maxRecDepth 100000 in
set_option linter.unusedSimpArgs false in
set_option linter.unusedVariables false in
theorem Open_any {w : World} {S : Nat → Prop} {R : Nat} {c : Cl} {P : List Gp} {v : Rv} (h : RtAt w S R c P v) :
    Calls Tryz.prog 17 #[.pointer (some ⟨R, 0, none⟩)] w fun e w' => e = .returned (.int .i64 (P.length : Int)) ∧ w = w' := by
  have NO := hide (none_r h)
  obtain ⟨D, M, S1, Kb, ao', nb, no, ncap, pv, hx, hS⟩ := h
  have c26 := hx.cells.2.2.2.2.2.2
  have LN := hx.map.rlen 3
  generalize P.length = pn at *
  clear hx hS
  go_enter Tryz.func17, Tryz.ntmps17
  go_wp2_with fail
  refine Calls.mono NO.out ?_
  rintro e W1 ⟨rfl, rfl⟩
  go_wp2_with fail
  go_ret
  exact ⟨rfl, rfl⟩
theorem oneKs (w : World) (key : ByteArray) (h : key.size ≤ 9223372036854775807) : KsAt (w.alloc (.cells #[.string key] 9)) (some ⟨w.heap.size, 0, none⟩) w.heap.size 0 [key] := by
  refine ⟨fun _ => rfl, fun i hi => ?_, by simp, fun k hk => by rw [List.mem_singleton.1 hk]; exact h⟩
  have : i = 0 := by simp at hi; omega
  subst this
  rw [cell_row (heap_last w _)]
  rfl
set_option maxHeartbeats 8000000 in
set_option maxRecDepth 100000 in
set_option linter.unusedSimpArgs false in
set_option linter.unusedVariables false in
theorem Get_any {w : World} {S : Nat → Prop} {R : Nat} {c : Cl} {P : List Gp} {v : Rv} {m : Nat} (h : RtAt w S R c P v) (hok : Ok c (P.map (·.g)) v m) (hT : TabD w) (hG : ∀ k, S k → 3 ≤ k) (hl : v.last ≤ 1000000000000000) (key : ByteArray) (hks : key.size ≤ 9223372036854775807) (h0 : mayE P.length [key] = 0) :
    Calls Tryz.prog 13 #[.pointer (some ⟨R, 0, none⟩), .string key] w fun e w' => ∃ S' P' vo, e = .returned (.tuple #[.int .i64 (v.last + 1), vo, .int .i64 0]) ∧ RtAt w' S' R c P' { v with last := v.last + 1 } ∧ P'.map (·.g) = P.map (·.g) ++ opG c v [key] (v.last + 1) ∧ w'.ownsRow w.heap.size 58 11 vo (opG c v [key] (v.last + 1)).length (mgs ((opG c v [key] (v.last + 1)).map getMg)) ∧ Kp w w' S ∧ ∀ k, S' k → S k ∨ w.heap.size ≤ k := by
  obtain ⟨W0, hW0⟩ : ∃ W0, W0 = w.alloc (.cells #[.string key] 9) := ⟨_, rfl⟩
  have k0 : Kp w W0 non := by rw [hW0]; exact (Kp.refl w non).alloc _
  have nS : ∀ k, S k → k < w.heap.size := fun k q => h.lt q
  have GA := GetAll_any (h.kp k0 (fun _ _ f => f)) hok (tab_kp hT k0 (fun _ f => f.elim)) hG hl (some ⟨w.heap.size, 0, none⟩) w.heap.size 0 1 [key] (by rw [hW0]; exact oneKs w key hks) (fun _ q => by have := nS _ q; omega) h0 (by simp)
  have GA := hide GA
  have K0 := hide k0
  have hsz : Hid (w.heap.size ≤ W0.heap.size) := k0.size
  clear hok hT k0
  go_enter Tryz.func13, Tryz.ntmps13
  go_wp2_with fail
  rw [← hW0]
  clear hW0
  refine Calls.mono GA.out ?_
  rintro e W1 ⟨S', P', vo, rfl, a1, a2, a3, a4, a5⟩
  have A1 := hide a1
  have A3 := hide (own_base a3 hsz.out)
  have A4 : Hid (Kp w W1 S) := (K0.out.mono (fun _ f => f.elim)).trans a4 (fun _ q => Or.inl q)
  have A5 : Hid (∀ k, S' k → S k ∨ w.heap.size ≤ k) := fun k q => by
    have := hsz.out
    rcases a5 k q with q | q
    · exact Or.inl q
    · exact Or.inr (by omega)
  clear a1 a3 a4 a5 GA
  obtain ⟨oa, oc, hvo⟩ := own_sl A3.out
  subst hvo
  go_wp2_with fail
  go_ret3
  exact ⟨S', P', _, rfl, A1.out, a2, A3.out, A4.out, A5.out⟩
set_option maxHeartbeats 8000000 in
set_option maxRecDepth 100000 in
set_option linter.unusedSimpArgs false in
set_option linter.unusedVariables false in
theorem Get_no {w : World} {S : Nat → Prop} {R : Nat} {c : Cl} {P : List Gp} {v : Rv} (h : RtAt w S R c P v) (hP : P.length ≤ 1000000) (key : ByteArray) (hks : key.size ≤ 9223372036854775807) (h0 : mayE P.length [key] ≠ 0) :
    Calls Tryz.prog 13 #[.pointer (some ⟨R, 0, none⟩), .string key] w fun e w' => e = .returned (.tuple #[.int .i64 0, .slice none 0 0, .int .i64 (mayE P.length [key])]) ∧ Kp w w' non := by
  obtain ⟨W0, hW0⟩ : ∃ W0, W0 = w.alloc (.cells #[.string key] 9) := ⟨_, rfl⟩
  have k0 : Kp w W0 non := by rw [hW0]; exact (Kp.refl w non).alloc _
  have GA := hide (GetAll_no (h.kp k0 (fun _ _ f => f)) hP (some ⟨w.heap.size, 0, none⟩) w.heap.size 0 1 [key] (by rw [hW0]; exact oneKs w key hks) (Or.inl h0))
  have K0 := hide k0
  generalize mayE P.length [key] = me at *
  clear k0 h0
  go_enter Tryz.func13, Tryz.ntmps13
  go_wp2_with fail
  rw [← hW0]
  clear hW0
  refine Calls.mono GA.out ?_
  rintro e W1 ⟨rfl, rfl⟩
  go_wp2_with fail
  go_ret3
  exact ⟨rfl, K0.out⟩
end Go.Proofs.YtndfhpfhgdamgaaGreatDoor.Cn
namespace Go.Proofs.YtndfhpfhgdamgaaGreatDoor.Cn
open Go.RowKit
def goG (gs : List Gt) (now : Int) (g : Gt) : List Gt := if g.asked = g.ow.length then gone gs g.tk else askd gs g.tk now
def hearG (gs : List Gt) (now : Int) (g : Gt) (m : Mg) : List Gt := if m.code = 0 ∨ m.code = 144 then gone gs g.tk else if m.fr = lastA g then goG gs now g else gs
theorem goP_g (P : List Gp) (now : Int) (p : Gp) : (goP P now p).map (·.g) = goG (P.map (·.g)) now p.g := by
  unfold goP goG
  split
  · exact goneP_g P _
  · exact askdP_g P _ _
theorem hearP_g (P : List Gp) (now : Int) (p : Gp) (m : Mg) : (hearP P now p m).map (·.g) = hearG (P.map (·.g)) now p.g m := by
  unfold hearP hearG
  split
  · exact goneP_g P _
  · split
    · exact goP_g P now p
    · rfl
def findG (gs : List Gt) (t : Int) : Option Gt := gs.find? fun g => decide (g.tk = t)
def ansG (gs : List Gt) (m : Mg) : Option Gt := (findG gs m.id).filter fun g => okAns m g
theorem findP_g (P : List Gp) (t : Int) : (findP P t).map (·.g) = findG (P.map (·.g)) t := by
  unfold findP findG
  rw [List.find?_map]
  rfl
theorem askP_g (P : List Gp) (m : Mg) : (askP P m).map (·.g) = ansG (P.map (·.g)) m := by
  unfold askP ansG
  rw [← findP_g]
  cases findP P m.id with
  | none => rfl
  | some p =>
    simp only [Option.map_some, Option.filter]
    split <;> rfl
def takeG (gs : List Gt) (now : Int) (m : Mg) : List Gt := match ansG gs m with
  | none => gs
  | some g => hearG gs now g m
def takeM (gs : List Gt) (now : Int) (m : Mg) : List Mg := match ansG gs m with
  | none => []
  | some g => hearM now g m
def takeO (gs : List Gt) (m : Mg) : List Oc := match ansG gs m with
  | none => []
  | some g => hearE g m
def takeE (n : Nat) (m : Mg) : Int := if m.td ≠ 65 ∨ (m.kind ≠ 12 ∧ m.kind ≠ 2) then 1 else chk1 n m.fr
theorem askP_mem {P : List Gp} {m : Mg} {p : Gp} (h : askP P m = some p) : p ∈ P ∧ okAns m p.g = true ∧ p.g.tk = m.id := by
  unfold askP at h
  cases hf : findP P m.id with
  | none => rw [hf] at h; simp at h
  | some q =>
    rw [hf] at h
    simp only [Option.filter] at h
    split at h
    · next hq =>
      injection h with h
      subst h
      exact ⟨(findP_mem hf).1, hq, (findP_mem hf).2⟩
    · simp at h
theorem goM_len (now : Int) (g : Gt) : (goM now g).length ≤ 1 := by unfold goM; split <;> simp
theorem goE_len (g : Gt) : (goE g).length ≤ 1 := by unfold goE; split <;> simp
set_option maxHeartbeats 8000000 in
set_option maxRecDepth 100000 in
set_option linter.unusedSimpArgs false in
set_option linter.unusedVariables false in
theorem Take_arg {w : World} {S : Nat → Prop} {R : Nat} {c : Cl} {P : List Gp} {v : Rv} (h : RtAt w S R c P v) (m : Mg) (hm : m.td ≠ 65 ∨ (m.kind ≠ 12 ∧ m.kind ≠ 2)) :
    Calls Tryz.prog 30 #[.pointer (some ⟨R, 0, none⟩), .agg (mgV m)] w fun e w' => e = .returned (.tuple #[.slice none 0 0, .slice none 0 0, .int .i64 1]) ∧ Kp w w' non := by
  obtain ⟨W0, hW0⟩ : ∃ W0, W0 = w.alloc (.cells (mgV m) 58) := ⟨_, rfl⟩
  obtain ⟨B0, hB0⟩ : ∃ B0, B0 = w.heap.size := ⟨_, rfl⟩
  have k0 : Kp w W0 non := by rw [hW0]; exact (Kp.refl w non).alloc _
  have m0 : MgAt W0 B0 m := by rw [hW0, hB0]; exact MgAt.new w m
  obtain ⟨b0, _, b2, _⟩ := m0.cells
  have NO := hide (none_r (h.kp k0 (fun _ _ f => f)))
  have K0 := hide k0
  have HB0 := hide hB0
  generalize m.td = td at *
  generalize m.kind = kd at *
  clear m0 k0 hB0 h
  by_cases ht : td = 65
  · have hk1 : ¬ kd = 12 := by omega
    have hk2 : ¬ kd = 2 := by omega
    have q0 : (td == 65) = true := by simp [ht]
    have q1 : (kd == 12) = false := by simp [hk1]
    have q2 : (kd == 2) = false := by simp [hk2]
    have q3 : (kd != 12) = true := by simp [hk1]
    have q4 : (kd != 2) = true := by simp [hk2]
    have q5 : (td != 65) = false := by simp [ht]
    go_enter Tryz.func30, Tryz.ntmps30
    go_upto_region 1 with fail
    rw [← hW0, ← HB0.out]
    clear hW0
    go_wp2_with fail
    refine Calls.mono NO.out ?_
    rintro e W1 ⟨rfl, rfl⟩
    go_wp2_with fail
    go_ret3
    exact ⟨rfl, K0.out⟩
  · have q0 : (td == 65) = false := by simp [ht]
    have q5 : (td != 65) = true := by simp [ht]
    go_enter Tryz.func30, Tryz.ntmps30
    go_upto_region 1 with fail
    rw [← hW0, ← HB0.out]
    clear hW0
    go_wp2_with fail
    refine Calls.mono NO.out ?_
    rintro e W1 ⟨rfl, rfl⟩
    go_wp2_with fail
    go_ret3
    exact ⟨rfl, K0.out⟩
set_option maxHeartbeats 8000000 in
set_option maxRecDepth 100000 in
set_option linter.unusedSimpArgs false in
set_option linter.unusedVariables false in
theorem Take_node {w : World} {S : Nat → Prop} {R : Nat} {c : Cl} {P : List Gp} {v : Rv} (h : RtAt w S R c P v) (hf : v.d.fits) (m : Mg) (hm : ¬ (m.td ≠ 65 ∨ (m.kind ≠ 12 ∧ m.kind ≠ 2))) (hn : ¬ (0 ≤ m.fr ∧ m.fr < (v.d.n : Int))) :
    Calls Tryz.prog 30 #[.pointer (some ⟨R, 0, none⟩), .agg (mgV m)] w fun e w' => e = .returned (.tuple #[.slice none 0 0, .slice none 0 0, .int .i64 68]) ∧ RtAt w' S R c P v ∧ Kp w w' S := by
  obtain ⟨W0, hW0⟩ : ∃ W0, W0 = w.alloc (.cells (mgV m) 58) := ⟨_, rfl⟩
  obtain ⟨B0, hB0⟩ : ∃ B0, B0 = w.heap.size := ⟨_, rfl⟩
  have k0 : Kp w W0 non := by rw [hW0]; exact (Kp.refl w non).alloc _
  have m0 : MgAt W0 B0 m := by rw [hW0, hB0]; exact MgAt.new w m
  obtain ⟨b0, b1, b2, _⟩ := m0.cells
  have NO := hide (none_r (h.kp k0 (fun _ _ f => f)))
  have sB : ∀ k, S k → k ≠ B0 := fun k q e => by have := h.lt q; omega
  obtain ⟨D, M, S1, Kb, ao, nb, no, ncap, pv, hx, hS⟩ := h
  have x0 := hx.kp k0 (fun _ _ f => f)
  have GD := Good_all (x0.det.kp ((Kp.refl W0 non).drew) (fun _ _ f => f)) hf m.fr
  have C0 : Hid (W0.cell? ⟨R, 23, none⟩ = some (.pointer (some ⟨D, 0, none⟩)) ∧ W0.cell? ⟨B0, 1, none⟩ = some (.int .i64 m.fr)) := ⟨x0.cells.2.2.2.1, b1⟩
  have nR : Hid (¬ S1 R) := x0.det.not x0.blk (by decide)
  have nB : Hid (¬ S1 B0) := fun q => sB B0 ((hS B0).2 (Or.inr (Or.inl q))) rfl
  have X0 := hide x0
  have K0 := hide k0
  have M0 := hide m0
  have HB0 := hide hB0
  have HS := hide hS
  have hm1 : m.td = 65 := by omega
  have hm2 : m.kind = 12 ∨ m.kind = 2 := by omega
  rw [hm1] at b2
  rw [show chk1 v.d.n m.fr = 68 from if_neg hn, show v.d.does 1 m.fr = v.d by unfold Dt.does; rw [if_pos rfl, if_neg hn]] at GD
  have GOOD := hide GD
  clear GD
  have HM2 := hide hm2
  generalize hkd : m.kind = kd at *
  have q12 : kd = 12 ∨ kd = 2 := HM2.out
  rcases q12 with rfl | rfl
  all_goals
    clear m0 k0 hB0 hx x0 hS b1
    go_enter Tryz.func30, Tryz.ntmps30
    go_upto_region 1 with fail
    rw [← hW0, ← HB0.out]
    clear hW0
    go_wp2_with fail
    refine Calls.mono NO.out ?_
    rintro e W1 ⟨rfl, rfl⟩
    clear NO
    go_upto_region 5 with fail
    refine wp_region_held_drew (S := fun X => X.cell? ⟨R, 23, none⟩ = some (.pointer (some ⟨D, 0, none⟩)) ∧ X.cell? ⟨B0, 1, none⟩ = some (.int .i64 m.fr)) (by kernel_rfl) C0.out (fun hHeld => ?_)
    refine wpAnyH_take (i := 0) (v := (.pointer (some ⟨R, 0, none⟩))) rfl (by kernel_rfl) (by kernel_rfl) (by kernel_rfl) (fun _ _ _ h => h) (Or.inl ⟨by rfl, ?_⟩) (by assumption) ?_
    · intro w' hSw
      (try dsimp only at hSw)
      go_simp
    (try simp only [Act.put, List.getElem_toArray, List.getElem_cons_zero, List.getElem_cons_succ, List.setIfInBounds_toArray, List.set_cons_zero, List.set_cons_succ])
    refine wpAnyH_take (i := 1) (v := (.pointer (some ⟨R, 0, none⟩))) rfl (by kernel_rfl) (by kernel_rfl) (by kernel_rfl) (fun _ _ _ h => h) (Or.inl ⟨by rfl, ?_⟩) (by assumption) ?_
    · intro w' hSw
      (try dsimp only at hSw)
      go_simp
    (try simp only [Act.put, List.getElem_toArray, List.getElem_cons_zero, List.getElem_cons_succ, List.setIfInBounds_toArray, List.set_cons_zero, List.set_cons_succ])
    refine wpAnyH_take (i := 2) (v := (.pointer (some ⟨R, 23, none⟩))) rfl (by kernel_rfl) (by kernel_rfl) (by kernel_rfl) (fun _ _ _ h => h) (Or.inl ⟨by rfl, ?_⟩) (by assumption) ?_
    · intro w' hSw
      (try dsimp only at hSw)
      go_simp
    (try simp only [Act.put, List.getElem_toArray, List.getElem_cons_zero, List.getElem_cons_succ, List.setIfInBounds_toArray, List.set_cons_zero, List.set_cons_succ])
    refine wpAnyH_take (i := 3) (v := (.pointer (some ⟨D, 0, none⟩))) rfl (by kernel_rfl) (by kernel_rfl) (by kernel_rfl) (fun _ _ _ h => h) (Or.inl ⟨by rfl, ?_⟩) (by assumption) ?_
    · intro w' hSw
      (try dsimp only at hSw)
      (have hs1 := hSw.1; go_simp)
    (try simp only [Act.put, List.getElem_toArray, List.getElem_cons_zero, List.getElem_cons_succ, List.setIfInBounds_toArray, List.set_cons_zero, List.set_cons_succ])
    refine wpAnyH_take (i := 4) (v := (.pointer (some ⟨B0, 1, none⟩))) rfl (by kernel_rfl) (by kernel_rfl) (by kernel_rfl) (fun _ _ _ h => h) (Or.inl ⟨by rfl, ?_⟩) (by assumption) ?_
    · intro w' hSw
      (try dsimp only at hSw)
      go_simp
    (try simp only [Act.put, List.getElem_toArray, List.getElem_cons_zero, List.getElem_cons_succ, List.setIfInBounds_toArray, List.set_cons_zero, List.set_cons_succ])
    refine wpAnyH_take (i := 5) (v := (.int .i64 m.fr)) rfl (by kernel_rfl) (by kernel_rfl) (by kernel_rfl) (fun _ _ _ h => h) (Or.inl ⟨by rfl, ?_⟩) (by assumption) ?_
    · intro w' hSw
      (try dsimp only at hSw)
      (have hs2 := hSw.2; go_simp)
    (try simp only [Act.put, List.getElem_toArray, List.getElem_cons_zero, List.getElem_cons_succ, List.setIfInBounds_toArray, List.set_cons_zero, List.set_cons_succ])
    refine wpAnyH_ready (rs := [6]) (by kernel_rfl) (by simp) ?_
    refine AllReadyH.cons rfl (fun K hK => ?_) AllReadyH.nil
    go_simp
    refine Calls.mono GOOD.out ?_
    rintro e W2 ⟨rfl, dt2, kk2⟩
    have k2 : Kp W0 W2 S1 := ((Kp.refl W0 S1).drew).trans kk2 (fun _ q => Or.inl q)
    have X2 := hide (X0.out.watch dt2 k2)
    have M2 : Hid (MgAt W2 B0 m) := M0.out.keep k2 nB.out
    have C2 : Hid (W2.cell? ⟨R, 23, none⟩ = some (.pointer (some ⟨D, 0, none⟩)) ∧ W2.cell? ⟨B0, 1, none⟩ = some (.int .i64 m.fr)) := ⟨X2.out.cells.2.2.2.1, M2.out.cells.2.1⟩
    have K2 : Hid (Kp w W2 S) := (K0.out.mono (T := S) (fun _ f => f.elim)).trans k2 (fun k q => Or.inl ((HS.out k).2 (Or.inr (Or.inl q))))
    clear dt2 kk2 k2 GOOD M0 X0
    refine hK.out _ _ (C2.out) (fun hHeld => ?_)
    clear hK
    (try simp only [Act.put, List.setIfInBounds_toArray, List.set_cons_zero, List.set_cons_succ])
    refine wpAnyH_ready (rs := [7]) (by kernel_rfl) (by simp) ?_
    refine AllReadyH.cons rfl (fun K hK => ?_) AllReadyH.nil
    go_simp
    refine hK.out _ _ (C2.out) (fun hHeld => ?_)
    clear hK
    (try simp only [Act.put, List.setIfInBounds_toArray, List.set_cons_zero, List.set_cons_succ])
    refine wpAnyH_done (by kernel_rfl) ?_ _
    go_wp2_with fail
    go_ret3
    exact ⟨rfl, ⟨D, M, S1, Kb, ao, nb, no, ncap, pv, X2.out, HS.out⟩, K2.out⟩
end Go.Proofs.YtndfhpfhgdamgaaGreatDoor.Cn
