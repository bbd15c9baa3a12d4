import Derived.Test.YtndfhpfhgdamgaaGreatDoorDsSym
import Derived.Test.YtndfhpfhgdamgaaGreatDoorGCaBase
namespace Go.Proofs.YtndfhpfhgdamgaaGreatDoor.Cn
open Go.RowKit
variable {Ky : Int → Int}
/-- one block more is sorted -/
theorem srtB_add {d f : List Int} {k a b : Nat} (h : SrtB Ky d k 0 a) (hs : Seg Ky d f a b) (hr : Srt Ky f a b) (hd : ∀ i j, i < a → a ≤ j → j < b → i / k ≠ j / k) : SrtB Ky f k 0 b := fun i j i1 i2 i3 e => by
  by_cases q : j < a
  · rw [hs.out i (by omega), hs.out j (by omega)]
    exact h i j i1 i2 q e
  · by_cases q2 : i < a
    · exact absurd e (hd i j q2 (by omega) i3)
    · exact hr i j (by omega) i2 i3
theorem srtB_out {d f : List Int} {k a b l r : Nat} (h : SrtB Ky d k l r) (hs : Seg Ky d f a b) (hd : r ≤ a ∨ b ≤ l) : SrtB Ky f k l r := fun i j i1 i2 i3 e => by
  rw [hs.out i (by omega), hs.out j (by omega)]
  exact h i j i1 i2 i3 e
theorem SrtB.srt {d : List Int} {k l r a b : Nat} (h : SrtB Ky d k l r) (h1 : l ≤ a) (h2 : b ≤ r) (hd : ∀ i j, a ≤ i → i < j → j < b → i / k = j / k) : Srt Ky d a b := fun i j i1 i2 i3 => h i j (by omega) i2 (by omega) (hd i j i1 i2 i3)
set_option maxHeartbeats 8000000 in
set_option maxRecDepth 100000 in
set_option linter.unusedSimpArgs false in
set_option linter.unusedVariables false in
theorem stable_any {w0 w : World} {g : Nat} {d : List Int} (h : Sx w0 w g d) {cb : Value} {ok : Int → Prop} {cf : Int → Int → Int} (hc : CmpC w0 g cb Ky ok cf) (ho : OkL ok d) (N : Nat) (hl : d.length = N) (hN : N ≤ 300) :
    Calls Tryz.prog 120 #[.slice (some ⟨g, 0, none⟩) N N, .int .i64 (N : Int), .func (.func 101) #[] #[cb]] w fun e w' => e = .returned (.tuple #[]) ∧ ∃ f : List Int, Seg Ky d f 0 N ∧ Srt Ky f 0 N ∧ Sx w0 w' g f := by
  have H := hide h
  have HC := hide hc
  have HO := hide ho
  have HL := hide hl
  have SY := hide (sym_any hc N (by omega) N)
  have IN : Hid (∀ (W : World) (f : List Int) (a b : Nat), f.length = N → OkL ok f → Sx w0 W g f → a ≤ b → b ≤ N → Calls Tryz.prog 130 #[.slice (some ⟨g, 0, none⟩) N N, .int .i64 (a : Int), .int .i64 (b : Int), .func (.func 101) #[] #[cb]] W fun e w' => e = .returned (.tuple #[]) ∧ ∃ f' : List Int, Seg Ky f f' a b ∧ Srt Ky f' a b ∧ Sx w0 w' g f') := fun W f a b fl fo fx h1 h2 => by
    have := insSort_any fx HC.out fo a b h1 (by rw [fl]; exact h2) (by rw [fl]; omega)
    rwa [fl] at this
  clear h hc ho hl
  go_enter Tryz.func120, Tryz.ntmps120
  go_wp2_with fail
  go_loopw [7, 8] (fun va vb wr => ∃ (a : Nat) (f : List Int), a % 20 = 0 ∧ a ≤ N ∧ va = .int .i64 (a : Int) ∧ vb = .int .i64 ((a : Int) + 20) ∧ Hid (Seg Ky d f 0 N) ∧ Hid (SrtB Ky f 20 0 a) ∧ Hid (Sx w0 wr g f)) (fun va _ _ => 320 - (intOf va).toNat)
  case atStart => exact ⟨0, d, rfl, Nat.zero_le _, rfl, rfl, Seg.refl _ _ _, fun i j _ _ _ _ => by omega, H.out⟩
  case round =>
    clear H
    obtain ⟨a, f, ha, haN, rfl, rfl, HG, HB, HS⟩ := hrel
    have HFL : Hid (f.length = N) := HG.out.len.trans HL.out
    have HOF : Hid (OkL ok f) := HO.out.eqf HG.out.eqf
    have ea : ((a : Int) + 20) = ((a + 20 : Nat) : Int) := by omega
    by_cases hlt : a + 20 ≤ N
    · have hltz : (a : Int) + 20 ≤ (N : Int) := by omega
      have I1 := IN.out wr f a (a + 20) HFL.out HOF.out HS.out (by omega) hlt
      rw [← ea] at I1
      have I1 := hide I1
      clear ea
      go_wp2_with fail
      refine Calls.mono I1.out ?_
      rintro z W1 ⟨rfl, f1, hs1, hr1, hx1⟩
      have HG1 : Hid (Seg Ky d f1 0 N) := HG.out.trans (hs1.mono (Nat.zero_le _) hlt)
      have HB1 : Hid (SrtB Ky f1 20 0 (a + 20)) := srtB_add HB.out hs1 hr1 (fun i j i1 i2 i3 => by omega)
      have HX1 := hide hx1
      clear hs1 hr1 hx1 I1
      go_wp2_with fail
      go_roundw
      case rel => exact ⟨a + 20, f1, by omega, hlt, by go_num, by first | rfl | go_num | (congr 1; omega), HG1, HB1, HX1⟩
      case measure => simp [intOf]; omega
    · have hltz : ¬ (a : Int) + 20 ≤ (N : Int) := by omega
      have I1 := hide (IN.out wr f a N HFL.out HOF.out HS.out haN (Nat.le_refl _))
      clear ea
      go_wp2_with fail
      refine Calls.mono I1.out ?_
      rintro z W1 ⟨rfl, f1, hs1, hr1, hx1⟩
      have HG1 : Hid (Seg Ky d f1 0 N) := HG.out.trans (hs1.mono (Nat.zero_le _) (Nat.le_refl _))
      have HB1 : Hid (SrtB Ky f1 20 0 N) := srtB_add HB.out hs1 hr1 (fun i j i1 i2 i3 => by omega)
      have HX1 := hide hx1
      clear hs1 hr1 hx1 I1 HG HB HS HFL HOF
      go_wp2_with fail
      go_loopw [6, 7, 8, 9] (fun vs va vb vm wr => ∃ (k : Nat) (f : List Int), (k = 20 ∨ k = 40 ∨ k = 80 ∨ k = 160 ∨ k = 320) ∧ vs = .int .i64 (k : Int) ∧ Hid (Seg Ky d f 0 N) ∧ Hid (SrtB Ky f k 0 N) ∧ Hid (Sx w0 wr g f)) (fun vs _ _ _ _ => 320 - (intOf vs).toNat)
      case atStart => exact ⟨20, f1, Or.inl rfl, rfl, HG1.out, HB1.out, HX1.out⟩
      case round =>
        clear HG1 HB1 HX1
        obtain ⟨k, f, hk, rfl, HG, HB, HS⟩ := hrel
        by_cases hkN : k < N
        · have hkz : (k : Int) < (N : Int) := by omega
          go_wp2_with fail
          go_loopw [7, 8] (fun va vb wr => ∃ (a : Nat) (f : List Int), a % (2 * k) = 0 ∧ a ≤ N ∧ va = .int .i64 (a : Int) ∧ vb = .int .i64 ((a : Int) + 2 * (k : Int)) ∧ Hid (Seg Ky d f 0 N) ∧ Hid (SrtB Ky f (2 * k) 0 a) ∧ Hid (SrtB Ky f k a N) ∧ Hid (Sx w0 wr g f)) (fun va _ _ => 640 - (intOf va).toNat)
          case atStart => exact ⟨0, f, by rw [Nat.zero_mod], Nat.zero_le _, rfl, by first | rfl | go_num | (congr 1; omega), HG.out, fun i j _ _ _ _ => by omega, HB.out, HS.out⟩
          case round =>
            clear HG HB HS
            obtain ⟨a, f, ha, haN, rfl, rfl, HG, HB, HB2, HS⟩ := hrel
            have HFL : Hid (f.length = N) := HG.out.len.trans HL.out
            have HOF : Hid (OkL ok f) := HO.out.eqf HG.out.eqf
            have ea : ((a : Int) + 2 * (k : Int)) = ((a + 2 * k : Nat) : Int) := by omega
            have ek : ((a : Int) + (k : Int)) = ((a + k : Nat) : Int) := by omega
            by_cases hlt : a + 2 * k ≤ N
            · have hltz : (a : Int) + 2 * (k : Int) ≤ (N : Int) := by omega
              have S1 : Hid (Calls Tryz.prog 131 #[.slice (some ⟨g, 0, none⟩) N N, .int .i64 (a : Int), .int .i64 ((a : Int) + (k : Int)), .int .i64 ((a : Int) + 2 * (k : Int)), .func (.func 101) #[] #[cb]] wr fun e w' => e = .returned (.tuple #[]) ∧ ∃ f' : List Int, Seg Ky f f' a (a + 2 * k) ∧ Srt Ky f' a (a + 2 * k) ∧ Sx w0 w' g f') := by
                have := SY.out wr f a (a + k) (a + 2 * k) (by omega) (by omega) (by omega) hlt HFL.out (HB2.out.srt (Nat.le_refl _) (by omega) (fun i j i1 i2 i3 => by rcases hk with rfl | rfl | rfl | rfl | rfl <;> omega)) (HB2.out.srt (by omega) hlt (fun i j i1 i2 i3 => by rcases hk with rfl | rfl | rfl | rfl | rfl <;> omega)) HOF.out HS.out
                rw [ea, ek]
                exact this
              clear ea ek
              go_wp2_with fail
              refine Calls.mono S1.out ?_
              rintro z W1 ⟨rfl, f1, hs1, hr1, hx1⟩
              have HG1 : Hid (Seg Ky d f1 0 N) := HG.out.trans (hs1.mono (Nat.zero_le _) hlt)
              have HB1 : Hid (SrtB Ky f1 (2 * k) 0 (a + 2 * k)) := srtB_add HB.out hs1 hr1 (fun i j i1 i2 i3 => by rcases hk with rfl | rfl | rfl | rfl | rfl <;> omega)
              have HB3 : Hid (SrtB Ky f1 k (a + 2 * k) N) := srtB_out (fun i j i1 i2 i3 e => HB2.out i j (by omega) i2 i3 e) hs1 (Or.inr (Nat.le_refl _))
              have HX1 := hide hx1
              clear hs1 hr1 hx1 S1
              go_wp2_with fail
              go_roundw
              case rel => exact ⟨a + 2 * k, f1, by rw [Nat.add_mod_right]; exact ha, hlt, by first | rfl | go_num | (congr 1; omega), by first | rfl | go_num | (congr 1; omega), HG1, HB1, HB3, HX1⟩
              case measure => simp [intOf]; omega
            · have hltz : ¬ (a : Int) + 2 * (k : Int) ≤ (N : Int) := by omega
              by_cases hm : a + k < N
              · have hmz : (a : Int) + (k : Int) < (N : Int) := by omega
                have S1 : Hid (Calls Tryz.prog 131 #[.slice (some ⟨g, 0, none⟩) N N, .int .i64 (a : Int), .int .i64 ((a : Int) + (k : Int)), .int .i64 (N : Int), .func (.func 101) #[] #[cb]] wr fun e w' => e = .returned (.tuple #[]) ∧ ∃ f' : List Int, Seg Ky f f' a N ∧ Srt Ky f' a N ∧ Sx w0 w' g f') := by
                  have := SY.out wr f a (a + k) N (by omega) (by omega) hm (Nat.le_refl _) HFL.out (HB2.out.srt (Nat.le_refl _) (by omega) (fun i j i1 i2 i3 => by rcases hk with rfl | rfl | rfl | rfl | rfl <;> omega)) (HB2.out.srt (by omega) (Nat.le_refl _) (fun i j i1 i2 i3 => by rcases hk with rfl | rfl | rfl | rfl | rfl <;> omega)) HOF.out HS.out
                  rw [ek]
                  exact this
                clear ea ek
                go_wp2_with fail
                refine Calls.mono S1.out ?_
                rintro z W1 ⟨rfl, f1, hs1, hr1, hx1⟩
                have HG1 : Hid (Seg Ky d f1 0 N) := HG.out.trans (hs1.mono (Nat.zero_le _) (Nat.le_refl _))
                have HB1 : Hid (SrtB Ky f1 (2 * k) 0 N) := srtB_add HB.out hs1 hr1 (fun i j i1 i2 i3 => by rcases hk with rfl | rfl | rfl | rfl | rfl <;> omega)
                have HX1 := hide hx1
                clear hs1 hr1 hx1 S1
                go_wp2_with fail
                go_roundw
                case rel => exact ⟨2 * k, f1, by omega, by first | rfl | go_num | (congr 1; omega), HG1, HB1, HX1⟩
                case measure => simp [intOf]; omega
              · have hmz : ¬ (a : Int) + (k : Int) < (N : Int) := by omega
                have HB1 : Hid (SrtB Ky f (2 * k) 0 N) := srtB_add HB.out (Seg.refl f a N) (HB2.out.srt (Nat.le_refl _) (Nat.le_refl _) (fun i j i1 i2 i3 => by rcases hk with rfl | rfl | rfl | rfl | rfl <;> omega)) (fun i j i1 i2 i3 => by rcases hk with rfl | rfl | rfl | rfl | rfl <;> omega)
                clear ea ek
                go_wp2_with fail
                go_roundw
                case rel => exact ⟨2 * k, f, by omega, by first | rfl | go_num | (congr 1; omega), HG, HB1, HS⟩
                case measure => simp [intOf]; omega
        · have hkz : ¬ (k : Int) < (N : Int) := by omega
          have HF : Hid (Srt Ky f 0 N) := HB.out.srt (Nat.le_refl _) (Nat.le_refl _) (fun i j i1 i2 i3 => by rcases hk with rfl | rfl | rfl | rfl | rfl <;> omega)
          go_wp2_with fail
          go_end0
          exact ⟨rfl, f, HG.out, HF.out, HS.out⟩
end Go.Proofs.YtndfhpfhgdamgaaGreatDoor.Cn
namespace Go.Proofs.YtndfhpfhgdamgaaGreatDoor.Cn
open Go.RowKit Go.MapKept Go.Maps
open Go.ChangeMaps (setBlock heap_setBlock_same heap_setBlock_other modify_eq_set set_perm)
/-- how keys of a kind lie there -/
structure KeyT (kt : TypeId) (κ : Type) where
  enc : κ → Value
  ok : κ → Prop
  law : Keyed Tryz.prog kt
  key : ∀ k, ok k → ∃ l, keyOf Tryz.prog kt (enc k) = some l
  inj : ∀ a b, enc a = enc b → a = b
variable {kt : TypeId} {κ : Type}
def enL (T : KeyT kt κ) (L : List (κ × Value)) : List (Value × Value) := L.map fun p => (T.enc p.1, p.2)
def kvs (es : Array MapEntry) : List (Value × Value) := es.toList.map fun x => (x.key, x.val)
/-- the entries of a map, in some order -/
structure Raw (T : KeyT kt κ) (es : Array MapEntry) (clock : Nat) (L : List (κ × Value)) : Prop where
  st : Stamped es clock
  sz : es.size ≤ maxLen
  ks : ∀ p ∈ L, T.ok p.1
  pm : (kvs es).Perm (enL T L)
def Mp (T : KeyT kt κ) (w : World) (M : Nat) (L : List (κ × Value)) : Prop := ∃ es clock, w.heap[M]? = some (.map es clock) ∧ Raw T es clock L
section
variable {T : KeyT kt κ} {es : Array MapEntry} {clock : Nat} {L : List (κ × Value)} {w w' : World} {M : Nat}
theorem Raw.mem (h : Raw T es clock L) {x : MapEntry} (hx : x ∈ es.toList) : ∃ p ∈ L, x.key = T.enc p.1 ∧ x.val = p.2 := by
  have : (x.key, x.val) ∈ enL T L := h.pm.mem_iff.1 (List.mem_map.2 ⟨x, hx, rfl⟩)
  obtain ⟨p, hp, e⟩ := List.mem_map.1 this
  simp only [Prod.mk.injEq] at e
  exact ⟨p, hp, e.1.symm, e.2.symm⟩
theorem Raw.mem' (h : Raw T es clock L) {p : κ × Value} (hp : p ∈ L) : ∃ x ∈ es.toList, x.key = T.enc p.1 ∧ x.val = p.2 := by
  have : (T.enc p.1, p.2) ∈ kvs es := h.pm.mem_iff.2 (List.mem_map.2 ⟨p, hp, rfl⟩)
  obtain ⟨x, hx, e⟩ := List.mem_map.1 this
  simp only [Prod.mk.injEq] at e
  exact ⟨x, hx, e.1, e.2⟩
theorem Raw.keys (h : Raw T es clock L) : ∀ x ∈ es.toList, ∃ l, keyOf Tryz.prog kt x.key = some l := fun x hx => by
  obtain ⟨p, hp, e, _⟩ := h.mem hx
  rw [e]
  exact T.key _ (h.ks p hp)
theorem Raw.nd (h : Raw T es clock L) : (L.map (·.1)).Nodup := by
  have h1 : ((kvs es).map (·.1)).Nodup := by
    have := ((stamped_iff es clock).1 h.st).2.2
    unfold kvs List.Nodup
    rw [List.map_map, List.pairwise_map]
    exact this
  have h2 : ((enL T L).map (·.1)).Nodup := (h.pm.map _).nodup_iff.1 h1
  unfold enL at h2
  rw [List.map_map] at h2
  have e : ((fun p : Value × Value => p.1) ∘ fun p : κ × Value => (T.enc p.1, p.2)) = T.enc ∘ (fun p : κ × Value => p.1) := rfl
  rw [e, ← List.map_map] at h2
  exact (List.pairwise_map.1 h2).imp (fun h e => h (by rw [e]))
theorem Mp.nd (h : Mp T w M L) : (L.map (·.1)).Nodup := by
  obtain ⟨es, clock, _, hr⟩ := h
  exact hr.nd
theorem Mp.lt (h : Mp T w M L) : M < w.heap.size := by
  obtain ⟨es, clock, hb, _⟩ := h
  exact blk_lt hb
theorem Mp.same (h : Mp T w M L) (e : w'.heap[M]? = w.heap[M]?) : Mp T w' M L := by
  obtain ⟨es, clock, hb, hr⟩ := h
  exact ⟨es, clock, e.trans hb, hr⟩
theorem Mp.kp {S : Nat → Prop} (h : Mp T w M L) (hk : Kp w w' S) (hM : ¬ S M) : Mp T w' M L := h.same (hk.block _ h.lt hM)
theorem Mp.kind (h : Mp T w M L) {c : Array Value} {t : TypeId} {f : Nat × Nat} : w.heap[M]? ≠ some (.cells c t f) := by
  obtain ⟨es, clock, hb, _⟩ := h
  rw [hb]
  simp
theorem Mp.perm (h : Mp T w M L) {L' : List (κ × Value)} (hp : L.Perm L') : Mp T w M L' := by
  obtain ⟨es, clock, hb, hr⟩ := h
  exact ⟨es, clock, hb, hr.st, hr.sz, fun p q => hr.ks p (hp.mem_iff.2 q), hr.pm.trans (hp.map _)⟩
theorem Mp.made (T : KeyT kt κ) (w : World) : Mp T (w.alloc (.map #[] 0)) w.heap.size [] := ⟨#[], 0, heap_last _ _, stamped_empty 0, by simp, by simp, List.Perm.refl _⟩
theorem setB_at {X : World} {o o' : Obj} (h : X.heap[M]? = some o) : (setBlock X M o').heap[M]? = some o' := by
  simp [setBlock, (Array.getElem?_eq_some_iff.1 h).1]
theorem setB_kp {X : World} {o' : Obj} : Kp X (setBlock X M o') (fun k => k = M) := ⟨rfl, rfl, rfl, by simp [setBlock], fun i _ hi => by
  simp only [setBlock]
  rw [Array.getElem?_setIfInBounds_ne (fun e => hi e.symm)]⟩
theorem Mp.ok (h : Mp T w M L) : ∀ p ∈ L, T.ok p.1 := by
  obtain ⟨es, clock, hb, hr⟩ := h
  exact hr.ks
end
theorem perm_at {α : Type} {l : List α} {j : Nat} {x : α} (h : l[j]? = some x) : l.Perm (x :: l.eraseIdx j) := by
  induction l generalizing j with
  | nil => simp at h
  | cons a r ih =>
    cases j with
    | zero =>
      simp only [List.getElem?_cons_zero, Option.some.injEq] at h
      subst h
      exact List.Perm.refl _
    | succ j =>
      rw [List.getElem?_cons_succ] at h
      exact (List.Perm.cons a (ih h)).trans (List.Perm.swap _ _ _)
variable [DecidableEq κ]
def look (L : List (κ × Value)) (k : κ) : Option Value := (L.find? (fun p => p.1 = k)).map (·.2)
def dele {α : Type} (L : List (κ × α)) (k : κ) : List (κ × α) := L.filter (fun p => p.1 ≠ k)
def putt {α : Type} (L : List (κ × α)) (k : κ) (v : α) : List (κ × α) := dele L k ++ [(k, v)]
section
variable {T : KeyT kt κ} {es : Array MapEntry} {clock : Nat} {L : List (κ × Value)} {w w' : World} {M : Nat}
theorem nd_find {α : Type} {L : List (κ × α)} (h : (L.map (·.1)).Nodup) {p : κ × α} (hp : p ∈ L) : L.find? (fun q => decide (q.1 = p.1)) = some p := by
  induction L with
  | nil => simp at hp
  | cons a r ih =>
    rw [List.map_cons, List.nodup_cons] at h
    rcases List.mem_cons.1 hp with rfl | hp'
    · simp
    · have hne : a.1 ≠ p.1 := fun e => h.1 (e ▸ List.mem_map.2 ⟨p, hp', rfl⟩)
      simp [hne, ih h.2 hp']
theorem look_mem (h : (L.map (·.1)).Nodup) {p : κ × Value} (hp : p ∈ L) : look L p.1 = some p.2 := by
  unfold look
  rw [nd_find h hp]
  rfl
theorem look_none {k : κ} (h : ∀ p ∈ L, p.1 ≠ k) : look L k = none := by
  unfold look
  rw [List.find?_eq_none.2 (by simpa using h)]
  rfl
/-- 'm[k]' -/
theorem Mp.lookup {t e : TypeId} {z : Value} (h : Mp T w M L) (ht : Tryz.prog.underlying t = some (.map kt e)) (hz : ∀ X, (zeroValue e).run Tryz.prog X = .ok z X) {k : κ} (hk : T.ok k) :
    (Instr.lookup t (.map (some M)) (T.enc k) false).run Tryz.prog w = .ok ((look L k).getD z) w := by
  obtain ⟨es, clock, hb, hr⟩ := h
  obtain ⟨kl, hkey⟩ := T.key k hk
  rcases T.law.find w hkey es.toList hr.keys with ⟨h1, h2⟩ | ⟨j, e0, h1, h2, h3⟩
  · have hn : look L k = none := look_none (fun p hp ep => by
      obtain ⟨x, hx, ex, _⟩ := hr.mem' hp
      exact h2 x hx (by rw [ex, ep]))
    rw [hn]
    simp [Instr.lookup, run_underlying ht, MapKept.run_getObj_map hb, T.law.check w _ hkey, h1, hz]
  · have hx : e0 ∈ es.toList := List.mem_of_getElem? h2
    obtain ⟨p, hp, ep, ev⟩ := hr.mem hx
    have : p.1 = k := T.inj _ _ (ep.symm.trans h3)
    have hl := look_mem hr.nd hp
    rw [this] at hl
    rw [hl]
    simp [Instr.lookup, run_underlying ht, MapKept.run_getObj_map hb, T.law.check w _ hkey, h1, ev]
theorem filter_ne_all {α : Type} {L : List (κ × α)} {k : κ} (h : ∀ p ∈ L, p.1 ≠ k) : dele L k = L := List.filter_eq_self.2 (by simpa using h)
theorem enL_dele (T : KeyT kt κ) (L : List (κ × Value)) (k : κ) : ∀ p ∈ enL T (dele L k), p.1 ≠ T.enc k := fun p hp => by
  obtain ⟨q, hq, rfl⟩ := List.mem_map.1 hp
  simp only [dele, ne_eq, decide_not, List.mem_filter, Bool.not_eq_true', decide_eq_false_iff_not] at hq
  exact fun e => hq.2 (T.inj _ _ e)
theorem perm_split {α : Type} {L : List (κ × α)} (hn : (L.map (·.1)).Nodup) {p : κ × α} (hp : p ∈ L) : L.Perm (p :: dele L p.1) := by
  induction L with
  | nil => simp at hp
  | cons a r ih =>
    rw [List.map_cons, List.nodup_cons] at hn
    by_cases e : a.1 = p.1
    · have ea : a = p := by
        rcases List.mem_cons.1 hp with rfl | hp'
        · rfl
        · exact absurd (List.mem_map.2 ⟨p, hp', e.symm⟩) hn.1
      subst ea
      have : dele (a :: r) a.1 = r := by
        unfold dele
        rw [List.filter_cons_of_neg (by simp)]
        exact filter_ne_all (fun q hq eq => hn.1 (List.mem_map.2 ⟨q, hq, eq⟩))
      rw [this]
    · have hp' : p ∈ r := by
        rcases List.mem_cons.1 hp with rfl | hp'
        · exact absurd rfl e
        · exact hp'
      have : dele (a :: r) p.1 = a :: dele r p.1 := by
        unfold dele
        rw [List.filter_cons_of_pos (by simpa using e)]
      rw [this]
      exact (List.Perm.cons a (ih hn.2 hp')).trans (List.Perm.swap _ _ _)
theorem len_dele {α : Type} (L : List (κ × α)) (k : κ) : (dele L k).length ≤ L.length := List.length_filter_le _ _
/-- 'm[k] = v' -/
theorem Mp.put {t e : TypeId} (h : Mp T w M L) (ht : Tryz.prog.underlying t = some (.map kt e)) {k : κ} (hk : T.ok k) (v : Value) (hl : L.length < maxLen) :
    ∃ X, (Instr.mapUpdate t (.map (some M)) (T.enc k) v).run Tryz.prog w = .ok () X ∧ Mp T X M (putt L k v) ∧ Kp w X (fun b => b = M) := by
  obtain ⟨es, clock, hb, hr⟩ := h
  obtain ⟨kl, hkey⟩ := T.key k hk
  have hsz : es.size = L.length := by
    have := hr.pm.length_eq
    simpa [kvs, enL] using this
  have oks : ∀ p ∈ putt L k v, T.ok p.1 := fun p hp => by
    rcases List.mem_append.1 hp with hp | hp
    · exact hr.ks p (List.mem_filter.1 hp).1
    · rw [List.mem_singleton.1 hp]; exact hk
  rcases T.law.find w hkey es.toList hr.keys with ⟨h1, h2⟩ | ⟨j, e0, h1, h2, h3⟩
  · refine ⟨setBlock w M (.map (es.push ⟨T.enc k, v, clock⟩) (clock + 1)), ?_, ⟨_, _, setB_at hb, stamped_push hr.st h2, by simp; omega, oks, ?_⟩, setB_kp⟩
    · simp [Instr.mapUpdate, run_underlying ht, MapKept.run_getObj_map hb, T.law.check w false hkey, h1, MapKept.run_setObj_map _ hb, Result.andThen, setBlock]
    · have hn : dele L k = L := filter_ne_all (fun p hp ep => by
        obtain ⟨x, hx, ex, _⟩ := hr.mem' hp
        exact h2 x hx (by rw [ex, ep]))
      unfold putt
      rw [hn]
      have := hr.pm
      unfold kvs enL at *
      simp only [Array.toList_push, List.map_append, List.map_cons, List.map_nil]
      exact this.append_right _
  · have hj : es[j]? = some e0 := by simpa using h2
    have hjl : j < es.toList.length := (List.getElem?_eq_some_iff.1 h2).1
    have hlist : (es.modify j (fun e' => { e' with key := T.enc k, val := v })).toList = es.toList.set j { e0 with key := T.enc k, val := v } := by rw [Array.toList_modify, modify_eq_set _ _ _ _ h2]
    refine ⟨setBlock w M (.map (es.modify j (fun e' => { e' with key := T.enc k, val := v })) clock), ?_, ⟨_, _, setB_at hb, stamped_modify hr.st _ _ (fun _ _ => rfl) (fun e' _ he' => by rw [hj] at he'; cases he'; exact h3.symm), by simpa using hr.sz, oks, ?_⟩, setB_kp⟩
    · simp [Instr.mapUpdate, run_underlying ht, MapKept.run_getObj_map hb, T.law.check w false hkey, h1, hj, h3, T.law.stays w hkey, MapKept.run_setObj_map _ hb, Result.andThen, setBlock]
    · have hx : e0 ∈ es.toList := List.mem_of_getElem? h2
      obtain ⟨p, hp, ep, ev⟩ := hr.mem hx
      have pk : p.1 = k := T.inj _ _ (ep.symm.trans h3)
      unfold kvs
      rw [hlist, List.map_set]
      refine (set_perm _ _ (by simpa using hjl) _).trans ?_
      have e1 : ((es.toList.map fun x => (x.key, x.val)).eraseIdx j).Perm (enL T (dele L k)) := by
        have a1 : (es.toList.map fun x => (x.key, x.val)).Perm ((e0.key, e0.val) :: (es.toList.map fun x => (x.key, x.val)).eraseIdx j) := perm_at (by simp [h2])
        have a2 : (enL T L).Perm ((e0.key, e0.val) :: enL T (dele L k)) := by
          have := (perm_split hr.nd hp).map (fun p : κ × Value => (T.enc p.1, p.2))
          rw [List.map_cons, ← ep, ← ev, pk] at this
          exact this
        exact (a1.symm.trans (hr.pm.trans a2)).cons_inv
      unfold putt enL
      rw [List.map_append]
      exact (List.Perm.cons _ e1).trans (List.perm_append_singleton _ _).symm
/-- 'delete(m, k)' -/
theorem Mp.del {t e ty : TypeId} (h : Mp T w M L) (ht : Tryz.prog.underlying t = some (.map kt e)) {k : κ} (hk : T.ok k) :
    ∃ X, (Builtin.delete_ #[t, kt] ty #[.map (some M), T.enc k]).run Tryz.prog w = .ok (.tuple #[]) X ∧ Mp T X M (dele L k) ∧ Kp w X (fun b => b = M) := by
  obtain ⟨es, clock, hb, hr⟩ := h
  obtain ⟨kl, hkey⟩ := T.key k hk
  have oks : ∀ p ∈ dele L k, T.ok p.1 := fun p hp => hr.ks p (List.mem_filter.1 hp).1
  rcases T.law.find w hkey es.toList hr.keys with ⟨h1, h2⟩ | ⟨j, e0, h1, h2, h3⟩
  · have hn : dele L k = L := filter_ne_all (fun p hp ep => by
      obtain ⟨x, hx, ex, _⟩ := hr.mem' hp
      exact h2 x hx (by rw [ex, ep]))
    rw [hn]
    refine ⟨setBlock w M (.map es clock), ?_, ⟨_, _, setB_at hb, hr⟩, setB_kp⟩
    simp [Builtin.delete_, run_underlying ht, MapKept.run_getObj_map hb, T.law.check w _ hkey, h1, MapKept.run_setObj_map _ hb, Result.andThen, setBlock]
  · have hjl : j < es.toList.length := (List.getElem?_eq_some_iff.1 h2).1
    have hjs : j < es.size := by simpa using hjl
    have hsub : (es.eraseIdxIfInBounds j).toList = es.toList.eraseIdx j := by
      unfold Array.eraseIdxIfInBounds
      rw [dif_pos hjs]
      simp
    refine ⟨setBlock w M (.map (es.eraseIdxIfInBounds j) clock), ?_, ⟨_, _, setB_at hb, stamped_erase hr.st j, Nat.le_trans (MapFrom.size_erase es j) hr.sz, oks, ?_⟩, setB_kp⟩
    · simp [Builtin.delete_, run_underlying ht, MapKept.run_getObj_map hb, T.law.check w _ hkey, h1, MapKept.run_setObj_map _ hb, Result.andThen, setBlock]
    · have hx : e0 ∈ es.toList := List.mem_of_getElem? h2
      obtain ⟨p, hp, ep, ev⟩ := hr.mem hx
      have pk : p.1 = k := T.inj _ _ (ep.symm.trans h3)
      unfold kvs
      rw [hsub, Go.ChangeMaps.map_eraseIdx]
      have a1 : (es.toList.map fun x => (x.key, x.val)).Perm ((e0.key, e0.val) :: (es.toList.map fun x => (x.key, x.val)).eraseIdx j) := perm_at (by simp [h2])
      have a2 : (enL T L).Perm ((e0.key, e0.val) :: enL T (dele L k)) := by
        have := (perm_split hr.nd hp).map (fun p : κ × Value => (T.enc p.1, p.2))
        rw [List.map_cons, ← ep, ← ev, pk] at this
        exact this
      exact (a1.symm.trans (hr.pm.trans a2)).cons_inv
end
end Go.Proofs.YtndfhpfhgdamgaaGreatDoor.Cn
namespace Go.Proofs.YtndfhpfhgdamgaaGreatDoor.Cn
open Go.RowKit Go.MapKept Go.Maps
open Go.ChangeMaps (setBlock)
theorem wfI {n : Int} (h0 : -9223372036854775808 ≤ n) (h1 : n < 9223372036854775808) : (Lit.int .i64 n).wf = true := by
  have e1 : IntKind.i64.min = -9223372036854775808 := by decide
  have e2 : IntKind.i64.max = 9223372036854775807 := by decide
  simp [Lit.wf, e1, e2]
  omega
def IT : KeyT 3 Int where
  enc := fun n => .int .i64 n
  ok := fun n => -9223372036854775808 ≤ n ∧ n < 9223372036854775808
  law := int_keyed Tryz.underlying3
  key := fun k hk => ⟨_, keyOf_int_mk Tryz.underlying3 (wfI hk.1 hk.2)⟩
  inj := fun a b h => by
    simp at h
    omega
theorem zeroI (u : World) : (zeroValue 3).run Tryz.prog u = .ok (.int .i64 0) u := by kernel_rfl
def iv (L : List (Int × Int)) : List (Int × Value) := L.map fun p => (p.1, Value.int .i64 p.2)
def lk (L : List (Int × Int)) (k : Int) : Int := ((L.find? (fun p => p.1 = k)).map (·.2)).getD 0
theorem look_iv (L : List (Int × Int)) (k : Int) : (look (iv L) k).getD (.int .i64 0) = .int .i64 (lk L k) := by
  unfold look iv lk
  induction L with
  | nil => rfl
  | cons a r ih =>
    simp only [List.map_cons, List.find?_cons]
    by_cases e : a.1 = k
    · simp [e]
    · simp only [e, decide_false]
      exact ih
theorem dele_iv (L : List (Int × Int)) (k : Int) : dele (iv L) k = iv (dele L k) := by
  unfold dele iv
  induction L with
  | nil => rfl
  | cons a r ih =>
    simp only [List.map_cons, List.filter_cons]
    by_cases e : a.1 = k
    · simp only [e, ne_eq, not_true_eq_false, decide_false, Bool.false_eq_true, if_false]
      exact ih
    · simp only [e, ne_eq, not_false_eq_true, decide_true, if_true, List.map_cons]
      rw [ih]
theorem putt_iv (L : List (Int × Int)) (k v : Int) : putt (iv L) k (.int .i64 v) = iv (putt L k v) := by
  unfold putt
  rw [dele_iv]
  unfold iv
  rw [List.map_append]
  rfl
theorem lk_none {L : List (Int × Int)} {k : Int} (h : ∀ p ∈ L, p.1 ≠ k) : lk L k = 0 := by
  unfold lk
  rw [List.find?_eq_none.2 (by simpa using h)]
  rfl
theorem lk_dele (L : List (Int × Int)) (k j : Int) : lk (dele L k) j = if j = k then 0 else lk L j := by
  by_cases e : j = k
  · rw [if_pos e]
    refine lk_none fun p hp => ?_
    have := (List.mem_filter.1 hp).2
    simp at this
    omega
  · rw [if_neg e]
    unfold lk dele
    congr 2
    induction L with
    | nil => rfl
    | cons a r ih =>
      by_cases e2 : a.1 = k
      · rw [List.filter_cons_of_neg (by simpa using e2), ih, List.find?_cons_of_neg (by simp; omega)]
      · rw [List.filter_cons_of_pos (by simpa using e2)]
        by_cases e3 : a.1 = j
        · rw [List.find?_cons_of_pos (by simpa using e3), List.find?_cons_of_pos (by simpa using e3)]
        · rw [List.find?_cons_of_neg (by simpa using e3), List.find?_cons_of_neg (by simpa using e3), ih]
theorem lk_append_none {L R : List (Int × Int)} {j : Int} (h : ∀ p ∈ L, p.1 ≠ j) : lk (L ++ R) j = lk R j := by
  unfold lk
  rw [List.find?_append, List.find?_eq_none.2 (by simpa using h)]
  rfl
theorem lk_append_other {L R : List (Int × Int)} {j : Int} (h : ∀ p ∈ R, p.1 ≠ j) : lk (L ++ R) j = lk L j := by
  unfold lk
  rw [List.find?_append, show R.find? (fun p => decide (p.1 = j)) = none from List.find?_eq_none.2 (by simpa using h)]
  simp
theorem lk_putt (L : List (Int × Int)) (k v j : Int) : lk (putt L k v) j = if j = k then v else lk L j := by
  unfold putt
  by_cases e : j = k
  · rw [if_pos e, lk_append_none (fun p hp => by have := (List.mem_filter.1 hp).2; simp at this; omega)]
    unfold lk
    simp [e]
  · rw [if_neg e, lk_append_other (fun p hp => by rw [List.mem_singleton.1 hp]; exact fun q => e q.symm), lk_dele, if_neg e]
/-- a map of ints -/
def Mi (w : World) (M : Nat) (L : List (Int × Int)) : Prop := Mp IT w M (iv L)
section
variable {w w' : World} {M : Nat} {L : List (Int × Int)}
theorem Mi.lt (h : Mi w M L) : M < w.heap.size := Mp.lt h
theorem Mi.kp {S : Nat → Prop} (h : Mi w M L) (hk : Kp w w' S) (hM : ¬ S M) : Mi w' M L := Mp.kp h hk hM
theorem Mi.same (h : Mi w M L) (e : w'.heap[M]? = w.heap[M]?) : Mi w' M L := Mp.same h e
theorem Mi.made (w : World) : Mi (w.alloc (.map #[] 0)) w.heap.size [] := Mp.made IT w
theorem Mi.look (h : Mi w M L) {k : Int} (h0 : -9223372036854775808 ≤ k) (h1 : k < 9223372036854775808) : (Instr.lookup 119 (.map (some M)) (.int .i64 k) false).run Tryz.prog w = .ok (.int .i64 (lk L k)) w := by
  have := Mp.lookup h Tryz.underlying119 zeroI (k := k) ⟨h0, h1⟩
  rw [look_iv] at this
  exact this
theorem Mi.put (h : Mi w M L) {k : Int} (h0 : -9223372036854775808 ≤ k) (h1 : k < 9223372036854775808) (v : Int) (hl : L.length < maxLen) :
    ∃ X, (Instr.mapUpdate 119 (.map (some M)) (.int .i64 k) (.int .i64 v)).run Tryz.prog w = .ok () X ∧ Mi X M (putt L k v) ∧ Kp w X (fun b => b = M) := by
  obtain ⟨X, a, b, c⟩ := Mp.put h Tryz.underlying119 (k := k) ⟨h0, h1⟩ (.int .i64 v) (by unfold iv; rw [List.length_map]; exact hl)
  rw [putt_iv] at b
  exact ⟨X, a, b, c⟩
theorem Mi.del (h : Mi w M L) {k : Int} (h0 : -9223372036854775808 ≤ k) (h1 : k < 9223372036854775808) (ty : TypeId) :
    ∃ X, (Builtin.delete_ #[119, 3] ty #[.map (some M), .int .i64 k]).run Tryz.prog w = .ok (.tuple #[]) X ∧ Mi X M (dele L k) ∧ Kp w X (fun b => b = M) := by
  obtain ⟨X, a, b, c⟩ := Mp.del (ty := ty) h Tryz.underlying119 (k := k) ⟨h0, h1⟩
  rw [dele_iv] at b
  exact ⟨X, a, b, c⟩
theorem Mi.len (h : Mi w M L) (ty : TypeId) : (Builtin.len_ #[119] ty #[.map (some M)]).run Tryz.prog w = .ok (.int .i64 (L.length : Int)) w := by
  obtain ⟨es, clock, hb, hr⟩ := h
  have hsz : es.size = L.length := by
    have := hr.pm.length_eq
    simpa [kvs, enL, iv] using this
  have hm := hr.sz
  simp [Builtin.len_, run_underlying Tryz.underlying119, MapKept.run_getObj_map hb, hsz, goInt]
theorem Mi.clear (h : Mi w M L) (ty : TypeId) : ∃ X, (Builtin.clear_ #[119] ty #[.map (some M)]).run Tryz.prog w = .ok (.tuple #[]) X ∧ Mi X M [] ∧ Kp w X (fun b => b = M) := by
  obtain ⟨es, clock, hb, hr⟩ := h
  refine ⟨setBlock w M (.map #[] clock), ?_, ⟨#[], clock, setB_at hb, stamped_empty clock, by simp, by simp [iv], List.Perm.refl _⟩, setB_kp⟩
  simp [Builtin.clear_, run_underlying Tryz.underlying119, MapKept.run_getObj_map hb, MapKept.run_setObj_map _ hb, Result.andThen, setBlock]
theorem Mi.ne {c : Array Value} {t : TypeId} {f : Nat × Nat} {D : Nat} (h : Mi w M L) (hD : w.heap[D]? = some (.cells c t f)) : D ≠ M := by
  rintro rfl
  exact Mp.kind h hD
theorem nd_iv (L : List (Int × Int)) : (iv L).map (·.1) = L.map (·.1) := by
  unfold iv
  rw [List.map_map]
  rfl
theorem Mi.nd (h : Mi w M L) : (L.map (·.1)).Nodup := by
  have := Mp.nd h
  rwa [nd_iv] at this
end
theorem keys_le {L : List (Int × Int)} {n : Nat} (h : (L.map (·.1)).Nodup) (hk : ∀ p ∈ L, 0 ≤ p.1 ∧ p.1 < (n : Int)) : L.length ≤ n := by
  have h1 : ((L.map (·.1)).map Int.toNat).Nodup := by
    rw [List.Nodup, List.pairwise_map]
    refine List.Pairwise.imp_of_mem ?_ h
    intro a b ha hb hab e
    obtain ⟨p, hp, rfl⟩ := List.mem_map.1 ha
    obtain ⟨q, hq, rfl⟩ := List.mem_map.1 hb
    have := hk p hp
    have := hk q hq
    exact hab (by omega)
  have h2 : ∀ x ∈ (L.map (·.1)).map Int.toNat, x ∈ List.range n := by
    intro x hx
    rw [List.map_map] at hx
    obtain ⟨p, hp, rfl⟩ := List.mem_map.1 hx
    have := hk p hp
    simp only [Function.comp_apply, List.mem_range]
    omega
  have := h1.length_le_of_subset h2
  simpa using this
end Go.Proofs.YtndfhpfhgdamgaaGreatDoor.Cn
namespace Go.Proofs.YtndfhpfhgdamgaaGreatDoor.Cn
open Go.RowKit
/-- a detector: what it was made with, the time, strikes and ends by node -/
structure Dt where
  n : Nat
  lim : Int
  ban : Int
  now : Int
  st : Int → Int
  en : Int → Int
structure Dt.fits (d : Dt) : Prop where
  n1 : 1 ≤ d.n
  n16 : d.n ≤ 16
  l1 : 1 ≤ d.lim
  l64 : d.lim ≤ 64
  b1 : 1 ≤ d.ban
  b1024 : d.ban ≤ 1024
  t0 : 0 ≤ d.now
def DtB (w : World) (D M1 M2 : Nat) (d : Dt) : Prop := w.heap[D]? = some (.cells #[.int .i64 (d.n : Int), .int .i64 d.lim, .int .i64 d.ban, .int .i64 d.now, .map (some M1), .map (some M2)] 121)
/-- where it lies: its block and its two maps -/
structure DtIn (w : World) (D M1 M2 : Nat) (L1 L2 : List (Int × Int)) (d : Dt) : Prop where
  blk : DtB w D M1 M2 d
  m1 : Mi w M1 L1
  m2 : Mi w M2 L2
  ne : M1 ≠ M2
  k1 : ∀ p ∈ L1, 0 ≤ p.1 ∧ p.1 < (d.n : Int)
  sub : ∀ p ∈ L2, ∃ q ∈ L1, q.1 = p.1
  h1 : ∀ k, lk L1 k = d.st k
  h2 : ∀ k, lk L2 k = d.en k
def DtAt (w : World) (S : Nat → Prop) (D : Nat) (d : Dt) : Prop := ∃ M1 M2 L1 L2, DtIn w D M1 M2 L1 L2 d ∧ ∀ k, S k ↔ k = D ∨ k = M1 ∨ k = M2
section
variable {w w' : World} {D M1 M2 : Nat} {L1 L2 : List (Int × Int)} {d : Dt} {S : Nat → Prop}
theorem DtB.c0 (h : DtB w D M1 M2 d) : w.cell? ⟨D, 0, none⟩ = some (.int .i64 (d.n : Int)) := by unfold World.cell?; rw [h]; rfl
theorem DtB.c1 (h : DtB w D M1 M2 d) : w.cell? ⟨D, 1, none⟩ = some (.int .i64 d.lim) := by unfold World.cell?; rw [h]; rfl
theorem DtB.c2 (h : DtB w D M1 M2 d) : w.cell? ⟨D, 2, none⟩ = some (.int .i64 d.ban) := by unfold World.cell?; rw [h]; rfl
theorem DtB.c3 (h : DtB w D M1 M2 d) : w.cell? ⟨D, 3, none⟩ = some (.int .i64 d.now) := by unfold World.cell?; rw [h]; rfl
theorem DtB.c4 (h : DtB w D M1 M2 d) : w.cell? ⟨D, 4, none⟩ = some (.map (some M1)) := by unfold World.cell?; rw [h]; rfl
theorem DtB.c5 (h : DtB w D M1 M2 d) : w.cell? ⟨D, 5, none⟩ = some (.map (some M2)) := by unfold World.cell?; rw [h]; rfl
theorem DtB.fz (h : DtB w D M1 M2 d) (i : Nat) : w.frozen? ⟨D, i, none⟩ = false := by unfold World.frozen?; rw [h]; simp
theorem DtIn.ne1 (h : DtIn w D M1 M2 L1 L2 d) : D ≠ M1 := h.m1.ne h.blk
theorem DtIn.ne2 (h : DtIn w D M1 M2 L1 L2 d) : D ≠ M2 := h.m2.ne h.blk
theorem DtIn.len1 (h : DtIn w D M1 M2 L1 L2 d) : L1.length ≤ d.n := keys_le h.m1.nd h.k1
theorem DtIn.k2 (h : DtIn w D M1 M2 L1 L2 d) : ∀ p ∈ L2, 0 ≤ p.1 ∧ p.1 < (d.n : Int) := fun p hp => by
  obtain ⟨q, hq, e⟩ := h.sub p hp
  rw [← e]
  exact h.k1 q hq
theorem DtIn.len2 (h : DtIn w D M1 M2 L1 L2 d) : L2.length ≤ d.n := keys_le h.m2.nd h.k2
theorem DtIn.kp (h : DtIn w D M1 M2 L1 L2 d) {T : Nat → Prop} (hk : Kp w w' T) (hT : ∀ k, k = D ∨ k = M1 ∨ k = M2 → ¬ T k) : DtIn w' D M1 M2 L1 L2 d :=
  ⟨(hk.block D (blk_lt h.blk) (hT D (Or.inl rfl))).trans h.blk, h.m1.kp hk (hT _ (Or.inr (Or.inl rfl))), h.m2.kp hk (hT _ (Or.inr (Or.inr rfl))), h.ne, h.k1, h.sub, h.h1, h.h2⟩
theorem DtAt.kp (h : DtAt w S D d) {T : Nat → Prop} (hk : Kp w w' T) (hT : ∀ k, S k → ¬ T k) : DtAt w' S D d := by
  obtain ⟨M1, M2, L1, L2, hi, hS⟩ := h
  exact ⟨M1, M2, L1, L2, hi.kp hk (fun k e => hT k ((hS k).2 e)), hS⟩
theorem DtAt.lt (h : DtAt w S D d) : ∀ k, S k → k < w.heap.size := fun k hk => by
  obtain ⟨M1, M2, L1, L2, hi, hS⟩ := h
  rcases (hS k).1 hk with rfl | rfl | rfl
  · exact blk_lt hi.blk
  · exact hi.m1.lt
  · exact hi.m2.lt
theorem DtAt.below (h : DtAt w S D d) (hb : Below w.heap.size w w') : DtAt w' S D d := h.kp (Kp.of_below hb non) (fun _ _ f => f)
theorem DtAt.self (h : DtAt w S D d) : S D := by
  obtain ⟨M1, M2, L1, L2, hi, hS⟩ := h
  exact (hS D).2 (Or.inl rfl)
end
/-- what the calls make of it -/
def upd (f : Int → Int) (k v : Int) : Int → Int := fun j => if j = k then v else f j
def Dt.good (d : Dt) (k : Int) : Dt := { d with st := upd d.st k 0, en := upd d.en k 0 }
def Dt.bad (d : Dt) (k : Int) : Dt := { d with st := upd d.st k (d.st k + 1), en := if d.lim ≤ d.st k + 1 then upd d.en k (d.now + d.ban) else d.en }
def Dt.tick (d : Dt) : Dt := { d with now := d.now + 1 }
def Dt.till (d : Dt) (k : Int) : Int := if d.now < d.en k then d.en k else 0
def Dt.new (n : Nat) (lim ban : Int) : Dt := ⟨n, lim, ban, 0, fun _ => 0, fun _ => 0⟩
section
variable {w w' : World} {D M1 M2 : Nat} {L1 L2 : List (Int × Int)} {d : Dt}
theorem mem_putt {L : List (Int × Int)} {k v : Int} {p : Int × Int} (h : p ∈ putt L k v) : p ∈ L ∨ p = (k, v) := by
  rcases List.mem_append.1 h with h | h
  · exact Or.inl (List.mem_filter.1 h).1
  · exact Or.inr (List.mem_singleton.1 h)
theorem key_putt {L : List (Int × Int)} {k v : Int} {p : Int × Int} (h : p ∈ L) : ∃ q ∈ putt L k v, q.1 = p.1 := by
  by_cases e : p.1 = k
  · exact ⟨(k, v), List.mem_append_right _ (List.mem_singleton.2 rfl), e.symm⟩
  · exact ⟨p, List.mem_append_left _ (List.mem_filter.2 ⟨h, by simpa using e⟩), rfl⟩
/-- a strike is put down -/
theorem DtIn.put1 (h : DtIn w D M1 M2 L1 L2 d) {k v : Int} (h0 : 0 ≤ k) (h1 : k < (d.n : Int)) {X : World} (hm : Mi X M1 (putt L1 k v)) (hk : Kp w X (fun b => b = M1)) : DtIn X D M1 M2 (putt L1 k v) L2 { d with st := upd d.st k v } := by
  refine ⟨(hk.block D (blk_lt h.blk) h.ne1).trans h.blk, hm, h.m2.kp hk (fun e => h.ne e.symm), h.ne, fun p hp => ?_, fun p hp => ?_, fun j => ?_, h.h2⟩
  · rcases mem_putt hp with hp | rfl
    · exact h.k1 p hp
    · exact ⟨h0, h1⟩
  · obtain ⟨q, hq, e⟩ := h.sub p hp
    obtain ⟨q', hq', e'⟩ := key_putt (k := k) (v := v) hq
    exact ⟨q', hq', e'.trans e⟩
  · rw [lk_putt, h.h1]
    rfl
/-- an end is put down -/
theorem DtIn.put2 (h : DtIn w D M1 M2 L1 L2 d) {k v : Int} (hin : ∃ q ∈ L1, q.1 = k) {X : World} (hm : Mi X M2 (putt L2 k v)) (hk : Kp w X (fun b => b = M2)) : DtIn X D M1 M2 L1 (putt L2 k v) { d with en := upd d.en k v } := by
  refine ⟨(hk.block D (blk_lt h.blk) h.ne2).trans h.blk, h.m1.kp hk h.ne, hm, h.ne, h.k1, fun p hp => ?_, h.h1, fun j => ?_⟩
  · rcases mem_putt hp with hp | rfl
    · exact h.sub p hp
    · exact hin
  · rw [lk_putt, h.h2]
    rfl
theorem mem_dele {L : List (Int × Int)} {k : Int} {p : Int × Int} (h : p ∈ dele L k) : p ∈ L ∧ p.1 ≠ k := by
  have := List.mem_filter.1 h
  exact ⟨this.1, by simpa using this.2⟩
/-- both are taken away -/
theorem DtIn.del (h : DtIn w D M1 M2 L1 L2 d) {k : Int} {X Y : World} (hm : Mi X M1 (dele L1 k)) (hk : Kp w X (fun b => b = M1)) (hm2 : Mi Y M2 (dele L2 k)) (hk2 : Kp X Y (fun b => b = M2)) : DtIn Y D M1 M2 (dele L1 k) (dele L2 k) (d.good k) := by
  refine ⟨(hk2.block D (Nat.lt_of_lt_of_le (blk_lt h.blk) hk.size) h.ne2).trans ((hk.block D (blk_lt h.blk) h.ne1).trans h.blk), hm.kp hk2 h.ne, hm2, h.ne, fun p hp => h.k1 p (mem_dele hp).1, fun p hp => ?_, fun j => ?_, fun j => ?_⟩
  · obtain ⟨q, hq, e⟩ := h.sub p (mem_dele hp).1
    exact ⟨q, List.mem_filter.2 ⟨hq, by have := (mem_dele hp).2; simp; omega⟩, e⟩
  · rw [lk_dele, h.h1]
    rfl
  · rw [lk_dele, h.h2]
    rfl
/-- where one node alone has strikes: all is cleared -/
theorem DtIn.clr (h : DtIn w D M1 M2 L1 L2 d) {k : Int} (hs : 0 < d.st k) (hl : L1.length = 1) {X Y : World} (hm : Mi X M1 []) (hk : Kp w X (fun b => b = M1)) (hm2 : Mi Y M2 []) (hk2 : Kp X Y (fun b => b = M2)) : DtIn Y D M1 M2 [] [] (d.good k) := by
  obtain ⟨a, rfl⟩ := List.length_eq_one_iff.1 hl
  have ha : a.1 = k := by
    have := h.h1 k
    apply Classical.byContradiction
    intro e
    rw [lk_none (by simpa using e)] at this
    omega
  have e1 : dele [a] k = [] := by simp [dele, ha]
  have e2 : dele L2 k = [] := by
    apply List.filter_eq_nil_iff.2
    intro p hp
    obtain ⟨q, hq, e⟩ := h.sub p hp
    rw [List.mem_singleton.1 hq] at e
    simp
    omega
  rw [← e1] at hm
  rw [← e2] at hm2
  have := h.del hm hk hm2 hk2
  rw [e1, e2] at this
  exact this
theorem DtIn.tick (h : DtIn w D M1 M2 L1 L2 d) : DtIn (w.setCell ⟨D, 3, none⟩ (.int .i64 (d.now + 1))) D M1 M2 L1 L2 d.tick := by
  have hk : Kp w (w.setCell ⟨D, 3, none⟩ (.int .i64 (d.now + 1))) (fun k => k = D) := (Kp.refl w (fun k => k = D)).set (Or.inl rfl) _ _
  refine ⟨?_, h.m1.kp hk (fun e => h.ne1 e.symm), h.m2.kp hk (fun e => h.ne2 e.symm), h.ne, h.k1, h.sub, h.h1, h.h2⟩
  unfold DtB
  rw [heap_setCell _ _ _ _ _ _ _ h.blk]
  rfl
end
end Go.Proofs.YtndfhpfhgdamgaaGreatDoor.Cn
