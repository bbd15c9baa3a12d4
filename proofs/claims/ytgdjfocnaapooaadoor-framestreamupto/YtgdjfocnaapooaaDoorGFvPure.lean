import Derived.Test.YtgdjfocnaapooaaDoorGFuClose
import Derived.Test.YtgdjfocnaapooaaDoorGFsFirst
namespace Go.Proofs.YtgdjfocnaapooaaDoor
open Go.RowKit
/-- a piece, so many bytes further on -/
def sh (i : Nat) (p : Nat × Nat × MM) : Nat × Nat × MM := (i + p.1, p.2.1, p.2.2)
theorem sh_sh (i j : Nat) (l : List (Nat × Nat × MM)) : (l.map (sh j)).map (sh i) = l.map (sh (i + j)) := by
  rw [List.map_map]
  congr 1
  funext p
  simp only [Function.comp, sh, Nat.add_assoc]
theorem sh_zero (l : List (Nat × Nat × MM)) : l.map (sh 0) = l := by
  conv => rhs; rw [← List.map_id l]
  congr 1
  funext p
  simp [sh]
theorem sh_msg (z : Nat) (l : List (Nat × Nat × MM)) : (l.map (sh z)).map (·.2.2) = l.map (·.2.2) := by rw [List.map_map]; rfl
theorem sh_end (z : Nat) (l : List (Nat × Nat × MM)) : (l.map (sh z)).map (fun e => e.1 + e.2.1) = (l.map (fun e => e.1 + e.2.1)).map (z + ·) := by
  rw [List.map_map, List.map_map]
  congr 1
  funext p
  simp only [Function.comp, sh]
  omega
theorem next_ext {s : ByteArray} {i j : Nat} (h : i + j ≤ s.size) : nextP (s.extract i s.size) j = nextP s (i + j) := by
  unfold nextP
  rw [ext_tail h]
theorem split_shift (s : ByteArray) (i : Nat) (hi : i ≤ s.size) : ∀ f j, i + j ≤ s.size → s.size ≤ i + j + f → splitP s (i + j) = (splitP (s.extract i s.size) j).map (sh i) := by
  have hz : (s.extract i s.size).size = s.size - i := by rw [ByteArray.size_extract]; omega
  intro f
  induction f with
  | zero => intro j h1 h2; rw [splitP_end (by omega), splitP_end (by omega)]; rfl
  | succ f ih =>
    intro j h1 h2
    by_cases hl : i + j < s.size
    · have hl2 : j < (s.extract i s.size).size := by omega
      have en := next_ext (s := s) h1
      cases hn : nextP s (i + j) with
      | none => rw [splitP_none hl hn, splitP_none hl2 (by rw [en, hn])]; exact ih (j + 1) (by omega) (by omega)
      | some x =>
        obtain ⟨n, m⟩ := x
        have hs := firstP_size hn
        rw [ByteArray.size_extract] at hs
        rw [splitP_some hl hn, splitP_some hl2 (by rw [en, hn]), List.map_cons, Nat.add_assoc, ih (j + n) (by omega) (by omega)]
        rfl
    · rw [splitP_end (by omega), splitP_end (by omega)]; rfl
/-- the places to which a scan comes -/
inductive Reach (s : ByteArray) : Nat → Prop
  | start : Reach s 0
  | skip {p : Nat} : Reach s p → p < s.size → nextP s p = none → Reach s (p + 1)
  | tell {p n : Nat} {m : MM} : Reach s p → nextP s p = some (n, m) → Reach s (p + n)
theorem Reach.shift {s : ByteArray} {i : Nat} (h : Reach s i) (hi : i ≤ s.size) {j : Nat} (hj : Reach (s.extract i s.size) j) : j ≤ s.size - i ∧ Reach s (i + j) := by
  have hz : (s.extract i s.size).size = s.size - i := by rw [ByteArray.size_extract]; omega
  induction hj with
  | start => exact ⟨Nat.zero_le _, h⟩
  | skip h1 h2 h3 ih =>
    refine ⟨by omega, ?_⟩
    rw [← Nat.add_assoc]
    exact ih.2.skip (by omega) (by rw [← next_ext (by omega)]; exact h3)
  | tell h1 h2 ih =>
    have := firstP_size h2
    rw [ByteArray.size_extract] at this
    refine ⟨by omega, ?_⟩
    rw [← Nat.add_assoc]
    exact ih.2.tell (by rw [← next_ext (by omega)]; exact h2)
/-- of the text t, whatever comes behind it, the pieces P are told up to the place p -/
def Scn (t : ByteArray) (P : List (Nat × Nat × MM)) (p : Nat) : Prop := p ≤ t.size ∧ (∀ e ∈ P, e.1 + e.2.1 ≤ p) ∧ ∀ u, Reach (t ++ u) p ∧ splitP (t ++ u) 0 = P ++ splitP (t ++ u) p
theorem Scn.start (t : ByteArray) : Scn t [] 0 := ⟨Nat.zero_le _, (fun _ h => nomatch h), fun _ => ⟨.start, rfl⟩⟩
theorem next_app {t u : ByteArray} {p : Nat} (hp : p ≤ t.size) (hm : mayP (t.extract p t.size) = false) : nextP (t ++ u) p = firstP (t.extract p t.size) := by
  unfold nextP
  rw [tail_app hp, first_stable u hm]
theorem Scn.skip {t : ByteArray} {P : List (Nat × Nat × MM)} {p : Nat} (h : Scn t P p) (h0 : (t.extract p t.size).size ≠ 0) (hm : mayP (t.extract p t.size) = false) (hn : firstP (t.extract p t.size) = none) : Scn t P (p + 1) := by
  rw [ByteArray.size_extract] at h0
  refine ⟨by omega, fun e he => Nat.le_succ_of_le (h.2.1 e he), fun u => ?_⟩
  have en := (next_app (u := u) h.1 hm).trans hn
  have hl : p < (t ++ u).size := by rw [ByteArray.size_append]; omega
  obtain ⟨h1, h2⟩ := h.2.2 u
  exact ⟨h1.skip hl en, by rw [h2, splitP_none hl en]⟩
theorem Scn.tell {t : ByteArray} {P : List (Nat × Nat × MM)} {p : Nat} (h : Scn t P p) (hm : mayP (t.extract p t.size) = false) {n : Nat} {m : MM} (hn : firstP (t.extract p t.size) = some (n, m)) : Scn t (P ++ [(p, n, m)]) (p + n) := by
  have hz := firstP_size hn
  rw [ByteArray.size_extract] at hz
  refine ⟨by omega, fun e he => ?_, fun u => ?_⟩
  · rcases List.mem_append.1 he with he | he
    · have := h.2.1 e he; omega
    · rw [List.mem_singleton.1 he]; exact Nat.le_refl _
  · have en := (next_app (u := u) h.1 hm).trans hn
    have hl : p < (t ++ u).size := by rw [ByteArray.size_append]; omega
    obtain ⟨h1, h2⟩ := h.2.2 u
    exact ⟨h1.tell en, by rw [h2, splitP_some hl en, List.append_assoc]; rfl⟩
/-- litter, and frames between: the messages, the places where their frames end, how much is litter -/
inductive Stw : ByteArray → List MM → List Nat → Nat → Prop
  | nil : Stw ⟨#[]⟩ [] [] 0
  | lit {b : UInt8} {B : ByteArray} {L : List MM} {E : List Nat} {k : Nat} : b ≠ 71 → Stw B L E k → Stw ((⟨#[b]⟩ : ByteArray) ++ B) L (E.map (1 + ·)) (k + 1)
  | frm {m : MM} {c : Nat} {B : ByteArray} {L : List MM} {E : List Nat} {k : Nat} : 1 ≤ c → c ≤ 16 → m.kind = (c : Int) → fitM m = true → Stw B L E k → Stw (encS m ++ B) (m :: L) ((encS m).size :: E.map ((encS m).size + ·)) k
theorem Stw.append {A : ByteArray} {La : List MM} {Ea : List Nat} {ka : Nat} (ha : Stw A La Ea ka) {B : ByteArray} {Lb : List MM} {Eb : List Nat} {kb : Nat} (hb : Stw B Lb Eb kb) : Stw (A ++ B) (La ++ Lb) (Ea ++ Eb.map (A.size + ·)) (ka + kb) := by
  induction ha with
  | nil =>
    have e : (⟨#[]⟩ : ByteArray) ++ B = B := ByteArray.empty_append
    rw [e]
    have e2 : Eb.map ((⟨#[]⟩ : ByteArray).size + ·) = Eb := by
      conv => rhs; rw [← List.map_id Eb]
      congr 1
      funext n
      show 0 + n = n
      omega
    rw [List.nil_append, List.nil_append, e2, Nat.zero_add]
    exact hb
  | lit h1 _ ih =>
    have := Stw.lit h1 ih
    rw [← ByteArray.append_assoc] at this
    rw [List.map_append, List.map_map] at this
    rename_i b B' L E k _
    have e3 : ((fun x => 1 + x) ∘ fun x => B'.size + x) = fun x => ((⟨#[b]⟩ : ByteArray) ++ B').size + x := by
      funext n
      rw [ByteArray.size_append]
      show 1 + (B'.size + n) = 1 + B'.size + n
      omega
    rw [e3] at this
    rw [show k + 1 + kb = k + kb + 1 by omega]
    exact this
  | frm h1 h2 h3 h4 _ ih =>
    have := Stw.frm h1 h2 h3 h4 ih
    rw [← ByteArray.append_assoc] at this
    rw [List.map_append, List.map_map] at this
    rename_i m c B' L E k _
    have e3 : ((fun x => (encS m).size + x) ∘ fun x => B'.size + x) = fun x => (encS m ++ B').size + x := by
      funext n
      rw [ByteArray.size_append]
      show (encS m).size + (B'.size + n) = (encS m).size + B'.size + n
      omega
    rw [e3] at this
    exact this
theorem first_lit {b : UInt8} (h : b ≠ 71) (B : ByteArray) : firstP ((⟨#[b]⟩ : ByteArray) ++ B) = none := by
  cases hf : firstP ((⟨#[b]⟩ : ByteArray) ++ B) with
  | none => rfl
  | some y =>
    obtain ⟨n, m⟩ := y
    obtain ⟨_, _, _, _, c, _⟩ := first_chk hf
    exfalso
    have e := congrArg (fun s : ByteArray => s.data.toList) c
    simp only [slice_str, app_data] at e
    have e2 := congrArg List.head? e
    simp only [List.drop_zero, Nat.sub_zero, List.singleton_append, List.take_succ_cons, List.head?_cons, magF, Option.some.injEq] at e2
    exact h e2
theorem one_size (b : UInt8) : (⟨#[b]⟩ : ByteArray).size = 1 := rfl
/-- at a place that a scan reaches, litter or a frame lies, or the text ends -/
theorem Stw.reach {s : ByteArray} {L : List MM} {E : List Nat} {k : Nat} (h : Stw s L E k) {p : Nat} (hp : Reach s p) : p ≤ s.size ∧ ∃ L' E' k', Stw (s.extract p s.size) L' E' k' := by
  induction hp with
  | start => exact ⟨Nat.zero_le _, L, E, k, by rw [ext_all]; exact h⟩
  | skip h1 h2 h3 ih =>
    obtain ⟨ip, L', E', k', is⟩ := ih
    refine ⟨by omega, ?_⟩
    rename_i p
    have hz : (s.extract p s.size).size = s.size - p := by rw [ByteArray.size_extract]; omega
    have et := ext_tail (s := s) (i := p) (n := 1) (by omega)
    have h3' : firstP (s.extract p s.size) = none := h3
    generalize s.extract p s.size = r at *
    cases is with
    | nil => exfalso; have : (⟨#[]⟩ : ByteArray).size = 0 := rfl; omega
    | lit g1 g2 =>
      rename_i b B E1 k1
      refine ⟨L', E1, k1, ?_⟩
      · rw [← et, tail_app (by rw [one_size]; exact Nat.le_refl _), show (⟨#[b]⟩ : ByteArray).extract 1 (⟨#[b]⟩ : ByteArray).size = ⟨#[]⟩ from rfl, show (⟨#[]⟩ : ByteArray) ++ B = B from ByteArray.empty_append]
        exact g2
    | frm g1 g2 g3 g4 g5 =>
      exfalso
      rename_i m c B L1 E1
      rw [first_enc m c g1 g2 g3 g4 B] at h3'
      cases h3'
  | tell h1 h2 ih =>
    obtain ⟨ip, L', E', k', is⟩ := ih
    rename_i p n m
    have hs := firstP_size h2
    rw [ByteArray.size_extract] at hs
    refine ⟨by omega, ?_⟩
    have hz : (s.extract p s.size).size = s.size - p := by rw [ByteArray.size_extract]; omega
    have et := ext_tail (s := s) (i := p) (n := n) (by omega)
    have h2' : firstP (s.extract p s.size) = some (n, m) := h2
    generalize s.extract p s.size = r at *
    cases is with
    | nil => exfalso; have : (⟨#[]⟩ : ByteArray).size = 0 := rfl; omega
    | lit g1 g2 => exfalso; rw [first_lit g1] at h2'; cases h2'
    | frm g1 g2 g3 g4 g5 =>
      rename_i m' c B L1 E1
      rw [first_enc m' c g1 g2 g3 g4 B] at h2'
      simp only [Option.some.injEq, Prod.mk.injEq] at h2'
      obtain ⟨e1, _⟩ := h2'
      refine ⟨L1, E1, k', ?_⟩
      rw [← et, ← e1, tail_app (Nat.le_refl _)]
      have : (encS m').extract (encS m').size (encS m').size = ⟨#[]⟩ := by
        apply ba_eq
        rw [slice_str, Nat.sub_self, List.take_zero]
      rw [this, show (⟨#[]⟩ : ByteArray) ++ B = B from ByteArray.empty_append]
      exact g5
/-- what Split tells of it -/
theorem Stw.split {s : ByteArray} {L : List MM} {E : List Nat} {k : Nat} (h : Stw s L E k) : (splitP s 0).map (·.2.2) = L ∧ (splitP s 0).map (fun e => e.1 + e.2.1) = E ∧ skT s = (k : Int) ∧ E.length = L.length := by
  induction h with
  | nil =>
    have e0 : splitP (⟨#[]⟩ : ByteArray) 0 = [] := splitP_end (Nat.le_refl _)
    rw [e0]
    exact ⟨rfl, rfl, by unfold skT; rw [splT_zero rfl]; rfl, rfl⟩
  | lit h1 _ ih =>
    rename_i b B L E k _
    obtain ⟨i1, i2, i3, i4⟩ := ih
    have hz : ((⟨#[b]⟩ : ByteArray) ++ B).size = 1 + B.size := by rw [ByteArray.size_append]; rfl
    have hn : nextP ((⟨#[b]⟩ : ByteArray) ++ B) 0 = none := by unfold nextP; rw [ext_all]; exact first_lit h1 B
    have eb : ((⟨#[b]⟩ : ByteArray) ++ B).extract 1 ((⟨#[b]⟩ : ByteArray) ++ B).size = B := by
      rw [tail_app (by rw [one_size]; exact Nat.le_refl _), show (⟨#[b]⟩ : ByteArray).extract 1 (⟨#[b]⟩ : ByteArray).size = ⟨#[]⟩ from rfl, show (⟨#[]⟩ : ByteArray) ++ B = B from ByteArray.empty_append]
    have sp := split_shift ((⟨#[b]⟩ : ByteArray) ++ B) 1 (by omega) (1 + B.size) 0 (by omega) (by omega)
    rw [eb] at sp
    have e1 : splitP ((⟨#[b]⟩ : ByteArray) ++ B) 0 = (splitP B 0).map (sh 1) := by rw [splitP_none (by omega) hn]; exact sp
    obtain ⟨_, g2⟩ := msgT_none (t := (⟨#[b]⟩ : ByteArray) ++ B) (by omega) (first_lit h1 B)
    rw [eb, i3] at g2
    refine ⟨?_, ?_, by rw [g2]; omega, by rw [List.length_map]; exact i4⟩
    · rw [e1, sh_msg, i1]
    · rw [e1, sh_end, i2]
  | frm h1 h2 h3 h4 _ ih =>
    rename_i m c B L E k _
    obtain ⟨i1, i2, i3, i4⟩ := ih
    have hf := first_enc m c h1 h2 h3 h4 B
    have hs := firstP_size hf
    have hz : (encS m ++ B).size = (encS m).size + B.size := ByteArray.size_append
    have hn : nextP (encS m ++ B) 0 = some ((encS m).size, m) := by unfold nextP; rw [ext_all]; exact hf
    have eb : (encS m ++ B).extract (encS m).size (encS m ++ B).size = B := by
      rw [tail_app (Nat.le_refl _), show (encS m).extract (encS m).size (encS m).size = ⟨#[]⟩ from (by apply ba_eq; rw [slice_str, Nat.sub_self, List.take_zero]), show (⟨#[]⟩ : ByteArray) ++ B = B from ByteArray.empty_append]
    have sp := split_shift (encS m ++ B) (encS m).size (by omega) ((encS m).size + B.size) 0 (by omega) (by omega)
    rw [eb, Nat.add_zero] at sp
    have e1 : splitP (encS m ++ B) 0 = (0, (encS m).size, m) :: (splitP B 0).map (sh (encS m).size) := by rw [splitP_some (by omega) hn, Nat.zero_add, sp]
    obtain ⟨_, g2⟩ := msgT_some hf
    rw [eb, i3] at g2
    refine ⟨?_, ?_, g2, by rw [List.length_cons, List.length_cons, List.length_map, i4]⟩
    · rw [e1, List.map_cons, sh_msg, i1]
    · rw [e1, List.map_cons, sh_end, i2]
      simp only [Nat.zero_add]
theorem stw_lit : ∀ l : List UInt8, (∀ b ∈ l, b ≠ 71) → Stw (strOf l) [] [] l.length := by
  intro l
  induction l with
  | nil => intro _; exact .nil
  | cons b l ih =>
    intro h
    have := Stw.lit (h b (by simp)) (ih (fun c hc => h c (by simp [hc])))
    have e : (⟨#[b]⟩ : ByteArray) ++ strOf l = strOf (b :: l) := by
      apply ba_eq
      rw [app_data, strOf_data, strOf_data]
      rfl
    rw [e] at this
    exact this
theorem stw_frm (m : MM) (c : Nat) (h1 : 1 ≤ c) (h16 : c ≤ 16) (hk : m.kind = (c : Int)) (hf : fitM m = true) : Stw (encS m) [m] [(encS m).size] 0 := by
  have := Stw.frm h1 h16 hk hf .nil
  rw [show encS m ++ (⟨#[]⟩ : ByteArray) = encS m from ByteArray.append_empty] at this
  exact this
end Go.Proofs.YtgdjfocnaapooaaDoor
namespace Go.Proofs.YtgdjfocnaapooaaDoor
open Go.RowKit
/-- so far told, and what is left, with the places -/
def Pos (t : ByteArray) (L : List MM) (r : ByteArray) : Prop := ∃ P p, r = t.extract p t.size ∧ P.map (·.2.2) = L ∧ Scn t P p
theorem Pos.start (t : ByteArray) : Pos t [] t := ⟨[], 0, (ext_all t).symm, rfl, Scn.start t⟩
theorem Pos.skip {t : ByteArray} {L : List MM} {r : ByteArray} (h : Pos t L r) (h0 : r.size ≠ 0) (hm : mayP r = false) (hn : firstP r = none) : Pos t L (r.extract 1 r.size) := by
  obtain ⟨P, p, rfl, h2, h3⟩ := h
  have hz : (t.extract p t.size).size = t.size - p := by rw [ByteArray.size_extract]; omega
  exact ⟨P, p + 1, ext_tail (by omega), h2, h3.skip h0 hm hn⟩
theorem Pos.tell {t : ByteArray} {L : List MM} {r : ByteArray} (h : Pos t L r) (hm : mayP r = false) {n : Nat} {m : MM} (hn : firstP r = some (n, m)) : Pos t (L ++ [m]) (r.extract n r.size) := by
  obtain ⟨P, p, rfl, h2, h3⟩ := h
  have hz := (firstP_size hn).2.1
  have h1 := (firstP_size hn).1
  rw [ByteArray.size_extract] at hz
  exact ⟨P ++ [(p, n, m)], p + n, ext_tail (by omega), by rw [List.map_append, h2]; rfl, h3.tell hm hn⟩
set_option maxHeartbeats 8000000 in
set_option maxRecDepth 100000 in
set_option linter.unusedSimpArgs false in
/-- Feed, with the places -/
theorem feed2_any (R n₀ : Nat) (h s : ByteArray) (k : Nat) (hs : h.size + s.size ≤ 800000000000) (hk : k ≤ 1000000000000000) (w : World) (hR : RdAt w R h (k : Int)) (hn₀ : n₀ ≤ R) (HT : ∀ W', Below n₀ w W' → TabF W' ∧ Tab4 5 W') :
    Calls Tryd.prog 11 #[.pointer (some ⟨R, 0, none⟩), .string s] w fun e w' => ∃ v L j r, e = .returned (.tuple #[v, .int .i64 0]) ∧ Pos (h ++ s) L r ∧ Fed (h ++ s) L j r ∧ (r.size = 0 ∨ mayP r = true) ∧ r.size + j + L.length ≤ h.size + s.size ∧ RdAt w' R r ((k + j : Nat) : Int) ∧ w'.ownsRow w.heap.size 27 11 v L.length (mcs L) ∧ w.grownBy w' (some R) := by
  have c0 := hR.c0
  have c1 := hR.c1
  have hsz : (h ++ s).size = h.size + s.size := ByteArray.size_append
  go_enter Tryd.func11, Tryd.ntmps11
  go_wp2_with fail
  have HTH := hide HT
  clear HT
  have hRl := blk_lt hR
  go_loopw [6, 7, 8, 9] (fun vt vr _ _ wr => ∃ L j r, vr = .string r ∧ FdInv R h (h ++ s) k w L j r vt wr ∧ Pos (h ++ s) L r) (fun _ vr _ _ _ => strSz vr)
  case atStart => exact ⟨[], 0, h ++ s, rfl, ⟨Fed.start _, by simp, hR, World.ownsRow_nil _ _ _ _, ⟨rfl, rfl, rfl, Nat.le_refl _, fun _ _ _ => rfl⟩⟩, Pos.start _⟩
  case round =>
    clear c0 c1 hR
    obtain ⟨L, j, r, rfl, hI, hPo⟩ := hrel
    have PO := hide hPo
    clear hPo
    have hle := hI.2.1
    rw [hsz] at hle
    obtain ⟨t1, t2⟩ := HTH.out _ (grown_n0 hI.2.2.2.2 hn₀ hRl)
    by_cases h0 : r.size = 0
    case pos =>
      have he : r.toList.isEmpty = true := isEmpty_iff.2 h0
      have HI := hide hI
      obtain ⟨vb, vc, rfl⟩ := own_sl hI.2.2.2.1
      clear t1 t2 hI
      have CL := hide (clone_any r (by omega) wr)
      go_wp2_with fail
      refine Calls.mono CL.out ?_
      rintro e w2 ⟨rfl, b2⟩
      obtain ⟨i1, i2, i3, i4, i5⟩ := HI.out.below b2
      clear b2 CL HI
      have k0 := i3.c0
      have f0 := i3.f0 (j := 0)
      have I1 := hide i1
      have I2 := hide (i3.set0 r)
      have I3 := hide (own_set (j := 0) i3 i4 (.string r))
      have I4 := hide (grown_set (j := 0) i5 (.string r))
      rw [hsz] at i2
      clear i1 i3 i4 i5
      go_wp2_with fail
      go_ret2
      exact ⟨_, L, j, r, rfl, PO.out, I1.out, Or.inl h0, i2, I2.out, I3.out, I4.out⟩
    case neg =>
      have he := emp_no h0
      have MB := hide (mayBegin_any r wr)
      have HI := hide hI
      obtain ⟨vb, vc, rfl⟩ := own_sl hI.2.2.2.1
      clear t1 t2 hI
      go_wp2_with fail
      refine Calls.mono MB.out ?_
      rintro e w1 ⟨rfl, b1⟩
      replace HI := hide (HI.out.below b1)
      clear b1 MB
      cases hm : mayP r
      case true =>
        have HM := hide hm
        clear hm
        have CL := hide (clone_any r (by omega) w1)
        go_wp2_with fail
        refine Calls.mono CL.out ?_
        rintro e w2 ⟨rfl, b2⟩
        obtain ⟨i1, i2, i3, i4, i5⟩ := HI.out.below b2
        clear b2 CL HI
        have k0 := i3.c0
        have f0 := i3.f0 (j := 0)
        have I1 := hide i1
        have I2 := hide (i3.set0 r)
        have I3 := hide (own_set (j := 0) i3 i4 (.string r))
        have I4 := hide (grown_set (j := 0) i5 (.string r))
        rw [hsz] at i2
        clear i1 i3 i4 i5
        go_wp2_with fail
        go_ret2
        exact ⟨_, L, j, r, rfl, PO.out, I1.out, Or.inr HM.out, i2, I2.out, I3.out, I4.out⟩
      case false =>
        have HM := hide hm
        clear hm
        obtain ⟨t1, t2⟩ := HTH.out _ (grown_n0 HI.out.2.2.2.2 hn₀ hRl)
        have FI := first_any r w1 t1 t2
        clear t1 t2
        cases hnx : firstP r with
        | none =>
          rw [firV_none hnx] at FI
          have FI := hide FI
          have HN := hide hnx
          clear hnx
          go_wp2_with fail
          refine Calls.mono FI.out ?_
          rintro e w2 ⟨rfl, b2⟩
          obtain ⟨WX, eX, _, bX1, bX⟩ := laid_new b2 (mm0 0)
          have IX := hide (HI.out.below bX)
          clear b2 bX1 bX FI HI
          go_upto_region 7 with (refine wpList_storeMsg rfl (.tmp 8) (.tmp 28) rfl w2.heap.size rfl (mm0 0) (mm0 0) rfl (heap_last _ _) ?_)
          rw [← eX]
          clear eX
          obtain ⟨i1, i2, i3, i4, i5⟩ := IX.out
          have h1 : 1 ≤ r.size := by omega
          have h1i : (1 : Int) ≤ (r.size : Int) := by omega
          obtain ⟨kj, hkj⟩ : ∃ kj, k + j = kj := ⟨_, rfl⟩
          have hkl : kj ≤ 2000000000000000 := by omega
          rw [hkj] at i3
          have k1 := i3.c1
          have f1 := i3.f0 (j := 1)
          have NX : Hid (FdInv R h (h ++ s) k w L (j + 1) (r.extract 1 r.size) (.slice vb L.length vc) (WX.setCell ⟨R, 1, none⟩ (.int .i64 ((kj : Int) + 1)))) := ⟨i1.skip h0 HM.out HN.out, by rw [ByteArray.size_extract, hsz]; omega, by
            have := i3.set1 ((kj : Int) + 1)
            rw [show ((k + (j + 1) : Nat) : Int) = (kj : Int) + 1 by omega]; exact this, own_set (j := 1) i3 i4 _, grown_set (j := 1) i5 _⟩
          clear i1 i2 i3 i4 i5 IX hkj
          go_wp2_with fail
          go_roundw
          case rel => exact ⟨L, j + 1, r.extract 1 r.size, rfl, NX.out, PO.out.skip h0 HM.out HN.out⟩
          case measure => show (r.extract 1 r.size).size < r.size; rw [ByteArray.size_extract]; omega
        | some y =>
          obtain ⟨n, m⟩ := y
          obtain ⟨n24, nle, n44, _⟩ := firstP_size hnx
          rw [firV_some hnx] at FI
          have FI := hide FI
          have HN := hide hnx
          have hn0 : ((n : Int) == 0) = false := by simp; omega
          have hni : (n : Int) ≤ (r.size : Int) := by omega
          have hni2 : ¬ (r.size : Int) < (n : Int) := by omega
          obtain ⟨hm1, hm2⟩ := msg_room (k := L.length) (by omega)
          obtain ⟨i0, hi0, hz0, hz1, hz2⟩ := info_partsF infoMg
          clear hnx
          go_wp2_with fail
          refine Calls.mono FI.out ?_
          rintro e w2 ⟨rfl, b2⟩
          obtain ⟨WX, eX, hX, bX1, bX⟩ := laid_new b2 m
          have IX := hide (HI.out.below bX)
          clear b2 bX1 bX FI HI
          go_upto_region 7 with (refine wpList_storeMsg rfl (.tmp 8) (.tmp 28) rfl w2.heap.size rfl m (mm0 0) rfl (heap_last _ _) ?_)
          rw [← eX]
          clear eX
          have s1 : w.heap.size ≤ WX.heap.size := IX.out.2.2.2.2.size
          go_wp2_with (first | (refine wpList_loadMsg rfl (.tmp 8) rfl m w2.heap.size rfl hX ?_) | (refine wpList_bsMsg rfl (.tmp 42) rfl m rfl ?_) | (at_builtin; refine wpList_append_own_at _ rfl _ _ 31 rfl w.heap.size 27 i0 _ 11 104 Tryd.underlying31 hi0 hz0 hz1 hz2 rfl (by decide) _ _ _ rfl (IX.out.2.2.2.1.alloc _) ⟨WX.heap.size, 0, none⟩ 1 1 (mcs [m]) rfl (by rw [mcs_one]; rfl) (msg_cell WX m) (msgs_one _) hm1 hm2 (by simp; omega) ?_; intro v2 w3 o2 g2 n2 a2; clear n2 a2))
          refine ⟨⟨L ++ [m], j, r.extract n r.size, rfl, ?_, PO.out.tell HM.out HN.out⟩, ?_⟩
          · obtain ⟨i1, i2, i3, i4, i5⟩ := IX.out
            have bA : Below WX.heap.size WX (WX.alloc (.cells (msgV m) 27)) := (Below.refl _ _).alloc (Nat.le_refl _) _
            have nr := (i3.below bA).not_row (i4.alloc _)
            refine ⟨i1.tell HM.out HN.out, by rw [ByteArray.size_extract, List.length_append, hsz]; simp only [List.length_cons, List.length_nil]; omega, (g2.block R (blk_lt (i3.below bA)) nr).trans (i3.below bA), by rw [mcs_append, List.length_append]; exact o2, ?_⟩
            have g1 := grown_below i5 bA
            refine ⟨g2.os.trans g1.os, g2.tape.trans g1.tape, g2.output.trans g1.output, Nat.le_trans g1.size g2.size, fun i hi hn => (g2.block i (Nat.lt_of_lt_of_le hi g1.size) (fun e => ?_)).trans (g1.block i hi hn)⟩
            have := (i4.lt i e.symm).1
            omega
          · show (r.extract n r.size).size < r.size
            rw [ByteArray.size_extract]; omega
end Go.Proofs.YtgdjfocnaapooaaDoor
namespace Go.Proofs.YtgdjfocnaapooaaDoor
open Go.RowKit
theorem ext_join (s : ByteArray) {a b c : Nat} (h1 : a ≤ b) (h2 : b ≤ c) : s.extract a b ++ s.extract b c = s.extract a c := by
  apply ba_eq
  rw [app_data, slice_str, slice_str, slice_str]
  have e : s.data.toList.drop b = (s.data.toList.drop a).drop (b - a) := by rw [List.drop_drop]; congr 1; omega
  rw [e, ← List.take_add]
  congr 1
  omega
theorem split_ge (s : ByteArray) : ∀ f i, s.size ≤ i + f → ∀ e ∈ splitP s i, i ≤ e.1 ∧ 24 ≤ e.2.1 := by
  intro f
  induction f with
  | zero => intro i h e he; rw [splitP_end (by omega)] at he; cases he
  | succ f ih =>
    intro i h e he
    by_cases hi : i < s.size
    · cases hn : nextP s i with
      | none => rw [splitP_none hi hn] at he; have := ih (i + 1) (by omega) e he; omega
      | some x =>
        obtain ⟨n, m⟩ := x
        have hs := firstP_size hn
        rw [splitP_some hi hn] at he
        rcases List.mem_cons.1 he with rfl | he
        · exact ⟨Nat.le_refl _, hs.1⟩
        · have := ih (i + n) (by omega) e he; omega
    · rw [splitP_end (by omega)] at he; cases he
/-- how far a Reader has come in the stream S, c bytes of it having come -/
structure CmS (S : ByteArray) (c : Nat) (P : List (Nat × Nat × MM)) (p k : Nat) (H : ByteArray) : Prop where
  hc : c ≤ S.size
  hp : p ≤ c
  hH : H = S.extract p c
  ends : ∀ e ∈ P, e.1 + e.2.1 ≤ p
  rch : Reach S p
  spl : splitP S 0 = P ++ splitP S p
  fed : Fed (S.extract 0 c) (P.map (·.2.2)) k H
  may : H.size = 0 ∨ mayP H = true
theorem ext_none (s : ByteArray) (a : Nat) : s.extract a a = ⟨#[]⟩ := by
  apply ba_eq
  rw [slice_str, Nat.sub_self, List.take_zero]
theorem CmS.start (S : ByteArray) : CmS S 0 [] 0 0 ⟨#[]⟩ :=
  ⟨Nat.zero_le _, Nat.le_refl _, (ext_none S 0).symm, (fun _ h => nomatch h), .start, rfl, by rw [ext_none]; exact Fed.start _, .inl rfl⟩
theorem CmS.step {S : ByteArray} {c : Nat} {P : List (Nat × Nat × MM)} {p k : Nat} {H : ByteArray} (h : CmS S c P p k H) {n : Nat} (hn : c + n ≤ S.size) {L : List MM} {j : Nat} {r : ByteArray} (hP : Pos (H ++ S.extract c (c + n)) L r) (hF : Fed (H ++ S.extract c (c + n)) L j r) (hm : r.size = 0 ∨ mayP r = true) :
    ∃ (P2 : List (Nat × Nat × MM)) (p2 : Nat), P2.map (·.2.2) = L ∧ CmS S (c + n) (P ++ P2.map (sh p)) (p + p2) (k + j) r := by
  have eX : H ++ S.extract c (c + n) = S.extract p (c + n) := by rw [h.hH]; exact ext_join S h.hp (by omega)
  have hF' := h.fed.join hF
  rw [ext_join S (Nat.zero_le c) (show c ≤ c + n by omega)] at hF'
  obtain ⟨P2, p2, hr, hL, h1, h2, h3⟩ := hP
  have hc := h.hc
  have hp := h.hp
  rw [eX] at hr h1 h3
  have hz : (S.extract p (c + n)).size = c + n - p := by rw [ByteArray.size_extract]; omega
  rw [hz] at h1
  obtain ⟨g1, g2⟩ := h3 (S.extract (c + n) S.size)
  rw [ext_join S (show p ≤ c + n by omega) hn] at g1 g2
  have sp0 := split_shift S p (by omega) S.size 0 (by omega) (by omega)
  have sp1 := split_shift S p (by omega) S.size p2 (by omega) (by omega)
  obtain ⟨_, r2⟩ := h.rch.shift (by omega) g1
  refine ⟨P2, p2, hL, hn, by omega, ?_, ?_, r2, ?_, ?_, hm⟩
  · rw [hr]
    apply ba_eq
    rw [slice_str, slice_str, slice_str, hz, List.drop_take, List.drop_drop, List.take_take]
    congr 1
    omega
  · intro e he
    rcases List.mem_append.1 he with he | he
    · have := h.ends e he; omega
    · obtain ⟨e2, he2, rfl⟩ := List.mem_map.1 he
      have := h2 e2 he2
      simp only [sh]
      omega
  · rw [h.spl, List.append_assoc]
    congr 1
    rw [sp1, ← List.map_append, ← g2]
    exact sp0
  · rw [List.map_append, sh_msg, hL]
    exact hF'
theorem may_head {H : ByteArray} (hm : mayP H = true) (h0 : H.size ≠ 0) : H.data.toList.head? = some 71 := by
  unfold mayP at hm
  simp only [Bool.and_eq_true] at hm
  have hg := of_decide_eq_true (show decide _ = true from hm.1.1)
  have e := congrArg (fun s : ByteArray => s.data.toList.head?) hg
  simp only [slice_str, List.drop_zero, Nat.sub_zero] at e
  rw [List.head?_take, List.head?_take] at e
  rw [if_neg (by omega), if_neg (by omega)] at e
  rw [e]
  rfl
/-- what is still to come ends behind what has come -/
theorem CmS.front {S : ByteArray} {c : Nat} {P : List (Nat × Nat × MM)} {p k : Nat} {H : ByteArray} (h : CmS S c P p k H) {L : List MM} {E : List Nat} {kw : Nat} (hS : Stw S L E kw) {e : Nat × Nat × MM} {rest : List (Nat × Nat × MM)} (he : splitP S p = e :: rest) : c < e.1 + e.2.1 := by
  have hc := h.hc
  have hp := h.hp
  have hge := split_ge S S.size p (by omega) e (by rw [he]; simp)
  have hzH : H.size = c - p := by rw [h.hH, ByteArray.size_extract]; omega
  rcases h.may with h0 | hm
  · omega
  · by_cases h0 : H.size = 0
    · omega
    · have hhd := may_head hm h0
      have eA : S.extract p S.size = H ++ S.extract c S.size := by rw [h.hH]; exact (ext_join S hp hc).symm
      obtain ⟨_, L', E', k', is⟩ := hS.reach h.rch
      have hhA : (S.extract p S.size).data.toList.head? = some 71 := by
        rw [eA, app_data, List.head?_append, hhd]
        rfl
      have hlt : p < S.size := by omega
      have hfr : ∃ n m, nextP S p = some (n, m) := by
        show ∃ n m, firstP (S.extract p S.size) = some (n, m)
        generalize S.extract p S.size = A at *
        cases is with
        | nil => simp at hhA
        | lit g1 g2 =>
          rw [app_data] at hhA
          simp only [List.singleton_append, List.head?_cons, Option.some.injEq] at hhA
          exact absurd hhA g1
        | frm g1 g2 g3 g4 g5 => exact ⟨_, _, first_enc _ _ g1 g2 g3 g4 _⟩
      obtain ⟨n, m, hn⟩ := hfr
      rw [splitP_some hlt hn] at he
      simp only [List.cons.injEq] at he
      rw [← he.1]
      have hk := first_chk hn
      have hz := hk.2.2.2.1
      show c < p + n
      unfold mayP at hm
      simp only [Bool.and_eq_true] at hm
      have hb := hm.2
      unfold bodP at hb
      simp only [Bool.or_eq_true, Bool.and_eq_true, decide_eq_true_eq] at hb
      rcases hb with hb | hb
      · omega
      · by_cases h20 : H.size < 20
        · omega
        · rw [eA, bsz_app (by omega)] at hz
          omega
theorem CmS.done {S : ByteArray} {P : List (Nat × Nat × MM)} {p k : Nat} {H : ByteArray} (h : CmS S S.size P p k H) {L : List MM} {E : List Nat} {kw : Nat} (hS : Stw S L E kw) : splitP S 0 = P ∧ H = ⟨#[]⟩ ∧ k = kw := by
  have he : splitP S p = [] := by
    cases hs : splitP S p with
    | nil => rfl
    | cons e rest =>
      exfalso
      have h1 := h.front hS hs
      -- each piece ends within the stream
      have h2 : ∀ f i, S.size ≤ i + f → ∀ e ∈ splitP S i, e.1 + e.2.1 ≤ S.size := by
        intro f
        induction f with
        | zero => intro i hi e he; rw [splitP_end (by omega)] at he; cases he
        | succ f ih =>
          intro i hi e he
          by_cases hl : i < S.size
          · cases hn : nextP S i with
            | none => rw [splitP_none hl hn] at he; exact ih (i + 1) (by omega) e he
            | some x =>
              obtain ⟨n, m⟩ := x
              have hz := firstP_size hn
              rw [ByteArray.size_extract] at hz
              rw [splitP_some hl hn] at he
              rcases List.mem_cons.1 he with rfl | he
              · show i + n ≤ _; omega
              · exact ih (i + n) (by omega) e he
          · rw [splitP_end (by omega)] at he; cases he
      have := h2 S.size p (by omega) e (by rw [hs]; simp)
      omega
  have hH : H = ⟨#[]⟩ := by
    have hp := h.hp
    by_cases h0 : H.size = 0
    · apply ba_eq
      exact List.eq_nil_of_length_eq_zero (by rw [size_data]; exact h0)
    · exfalso
      have hm := h.may.resolve_left h0
      have hzH : H.size = S.size - p := by rw [h.hH, ByteArray.size_extract]; omega
      have hhd := may_head hm h0
      obtain ⟨_, L', E', k', is⟩ := hS.reach h.rch
      have hlt : p < S.size := by omega
      rw [h.hH] at hhd
      have hfr : ∃ n m, nextP S p = some (n, m) := by
        show ∃ n m, firstP (S.extract p S.size) = some (n, m)
        generalize S.extract p S.size = A at *
        cases is with
        | nil => simp at hhd
        | lit g1 g2 =>
          rw [app_data] at hhd
          simp only [List.singleton_append, List.head?_cons, Option.some.injEq] at hhd
          exact absurd hhd g1
        | frm g1 g2 g3 g4 g5 => exact ⟨_, _, first_enc _ _ g1 g2 g3 g4 _⟩
      obtain ⟨n, m, hn⟩ := hfr
      rw [splitP_some hlt hn] at he
      cases he
  refine ⟨by rw [h.spl, he, List.append_nil], hH, ?_⟩
  have hf := (h.fed ⟨#[]⟩).2
  rw [ext_all, app_none, hH, app_none, hS.split.2.2.1] at hf
  have z : skT (⟨#[]⟩ : ByteArray) = 0 := by unfold skT; rw [splT_zero rfl]; rfl
  rw [z] at hf
  omega
end Go.Proofs.YtgdjfocnaapooaaDoor
namespace Go.Proofs.YtgdjfocnaapooaaDoor
open Go.RowKit
set_option maxHeartbeats 4000000 in
set_option maxRecDepth 100000 in
/-- litter: without the bytes 71 -/
theorem litter_any (s : ByteArray) (hs : s.size ≤ 10000000) (w : World) :
    Calls Tryd.prog 19 #[.string s] w fun e w' => ∃ l : List UInt8, e = .returned (.string (strOf l)) ∧ (∀ b ∈ l, b ≠ 71) ∧ l.length ≤ s.size ∧ Below w.heap.size w w' := by
  obtain ⟨i0, hi0, hz0, hz1, hz2⟩ := info_partsF info5
  go_enter Tryd.func19, Tryd.ntmps19
  go_wp2_with fail
  go_loopw [3, 4] (fun v i wr => ∃ (q : Nat) (l : List UInt8), i = .int .i64 (q : Int) ∧ q ≤ s.size ∧ l.length ≤ q ∧ (∀ b ∈ l, b ≠ 71) ∧ wr.ownsRow w.heap.size 5 1 v l.length (l.map ub) ∧ Below w.heap.size w wr) (fun _ i _ => s.size - (intOf i).toNat)
  case atStart => exact ⟨0, [], rfl, Nat.zero_le _, Nat.le_refl _, (fun _ h => nomatch h), World.ownsRow_nil _ _ _ _, Below.refl _ _⟩
  case round =>
    obtain ⟨q, l, rfl, hq, hlq, hl, hown, hB⟩ := hrel
    by_cases hql : q < s.size
    case neg =>
      obtain rfl : q = s.size := by omega
      have HO := hide hown
      have HB := hide hB
      have HL := hide hl
      have hcv := own_conv hown rfl Tryd.underlying89 Tryd.underlying5 Tryd.underlying9
      obtain ⟨vb, vc, rfl⟩ := own_sl hown
      clear hown hB hl
      go_wp2_with fail
      go_ret
      exact ⟨l, rfl, HL.out, hlq, HB.out⟩
    case pos =>
      have hqi : (q : Int) < (s.size : Int) := by omega
      obtain ⟨b, hb⟩ : ∃ b, s[q]'hql = b := ⟨_, rfl⟩
      have HO := hide hown
      have HB := hide hB
      have HL := hide hl
      obtain ⟨vb, vc, rfl⟩ := own_sl hown
      have hm1 : l.length + 1 ≤ maxLen := by unfold maxLen; omega
      have hm2 : (l.length + 1) * 1 ≤ 140737488355328 := by omega
      have s1 := hB.size
      clear hown hB hl
      by_cases h71 : b = 71
      case pos =>
        have hne : ((b.toNat : Int) != 71) = false := by rw [h71]; rfl
        go_wp2_with fail
        go_roundw
        case rel => exact ⟨q + 1, l, by go_num, by omega, by omega, HL.out, HO.out, HB.out⟩
        case measure => simp [intOf]; omega
      case neg =>
        have hne : ((b.toNat : Int) != 71) = true := bne_iff_ne.2 (fun e => h71 (UInt8.toNat_inj.1 (by show b.toNat = 71; omega)))
        go_wp2_with (at_builtin; refine wpList_append_own_at _ rfl _ _ 89 rfl w.heap.size 5 i0 (.int .u8 0) 1 1 Tryd.underlying89 hi0 hz0 hz1 hz2 rfl (by decide) _ _ _ rfl (HO.out.alloc _) ⟨wr.heap.size, 0, none⟩ 1 1 [.int .u8 (b.toNat : Int)] rfl rfl (cell_one_new _ _ _) (by simp [Value.oneCell']) hm1 hm2 (by simp; omega) ?_; intro v2 w2 o2 g2 n2 a2; clear n2 a2)
        have o3 : w2.ownsRow w.heap.size 5 1 v2 (l ++ [b]).length ((l ++ [b]).map ub) := by rw [List.map_append, List.length_append]; exact o2
        have g3 : Below w.heap.size w w2 := (HB.out.alloc s1 _).grown g2 (by simp; omega) (fun j hj => (HO.out.lt j hj).1)
        have hl2 : ∀ c ∈ l ++ [b], c ≠ 71 := fun c hc => by
          rcases List.mem_append.1 hc with hc | hc
          · exact HL.out c hc
          · rw [List.mem_singleton.1 hc]; exact h71
        have O3 := hide o3
        have G3 := hide g3
        have L3 := hide hl2
        clear o2 g2 o3 g3 hl2
        go_wp2_with fail
        go_roundw
        case rel => exact ⟨q + 1, l ++ [b], by go_num, by omega, by rw [List.length_append]; simp only [List.length_cons, List.length_nil]; omega, L3.out, O3.out, G3.out⟩
        case measure => simp [intOf]; omega
end Go.Proofs.YtgdjfocnaapooaaDoor
namespace Go.Proofs.YtgdjfocnaapooaaDoor
open Go.RowKit
set_option maxHeartbeats 2000000 in
set_option maxRecDepth 100000 in
/-- cutAt -/
theorem cutAt_any (ao : Option Addr) (b off cap : Nat) (cs : List Int) (hao : 0 < cs.length → ao = some ⟨b, off, none⟩) (i n : Nat) (hn : n ≤ 1000000000000) (hi : i ≤ 1000000000000) (w : World) (hl : ∀ j c, cs[j]? = some c → w.cell? ⟨b, off + j, none⟩ = some (.int .i64 c)) :
    Calls Tryd.prog 38 #[.slice ao cs.length cap, .int .i64 (i : Int), .int .i64 (n : Int)] w fun e w' => ∃ m : Nat, e = .returned (.int .i64 (m : Int)) ∧ m ≤ n ∧ w = w' := by
  by_cases h0 : cs.length = 0
  · have h0i : ((cs.length : Int) == 0) = true := by rw [h0]; rfl
    clear hl hao
    generalize cs.length = cl at *
    clear h0
    go_enter Tryd.func38, Tryd.ntmps38
    go_wp2_with fail
    go_ret
    exact ⟨n, rfl, Nat.le_refl _, rfl⟩
  · obtain rfl := hao (by omega)
    have h0i : ((cs.length : Int) == 0) = false := beq_eq_false_iff_ne.2 (by omega)
    have hlt : i % cs.length < cs.length := Nat.mod_lt _ (by omega)
    have cx := hl (i % cs.length) cs[i % cs.length] (List.getElem?_eq_getElem hlt)
    have CL := hide (clipped_any cs[i % cs.length] n (by omega) w)
    have hm : (i : Int).tmod (cs.length : Int) = ((i % cs.length : Nat) : Int) := by rw [Int.tmod_eq_emod_of_nonneg (by omega)]; rfl
    obtain ⟨r0, r1⟩ : 0 ≤ cs[i % cs.length] % ((n : Int) + 1) ∧ cs[i % cs.length] % ((n : Int) + 1) < (n : Int) + 1 := ⟨Int.emod_nonneg _ (by omega), Int.emod_lt_of_pos _ (by omega)⟩
    clear hl
    generalize cs[i % cs.length] = c at *
    generalize i % cs.length = r at *
    have R0 := hide r0
    have R1 := hide r1
    clear r0 r1
    have hri : (r : Int) < (cs.length : Int) := by omega
    have hne : ¬ (cs.length : Int) = 0 := by omega
    generalize cs.length = cl at *
    clear h0
    go_enter Tryd.func38, Tryd.ntmps38
    go_wp2_with fail
    refine Calls.mono CL.out ?_
    rintro e wx ⟨rfl, rfl⟩
    go_wp2_with fail
    go_ret
    have r0 := R0.out
    have r1 := R1.out
    exact ⟨(c % ((n : Int) + 1)).toNat, by rw [Int.toNat_of_nonneg r0]; rfl, by omega, rfl⟩
end Go.Proofs.YtgdjfocnaapooaaDoor
