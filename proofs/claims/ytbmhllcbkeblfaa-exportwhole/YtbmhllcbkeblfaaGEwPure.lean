import Derived.Test.YtbmhllcbkeblfaaGCaBase
import Derived.WalkKit
import Derived.WalkSpells
import Derived.WalkLawsBesides
import Derived.Laws.OwnMore
import Derived.Laws.MakeOwn
import Derived.Laws.CopyOwn
import Derived.Below
import Derived.Lib.MinMax
import Derived.Deep.RegionHeld3
import Derived.Deep.QuietTactic
import Derived.BigQuiet
import Derived.Deep.DeepCutAuto
import Derived.Maps.AppendAt
import Derived.Maps.Own
import Derived.Maps.OwnSet
import Derived.Maps.Views
import Derived.DeepKeys4
import Derived.Carry
import Derived.Maps.Keyed
import Derived.Maps.RangeRun
import Derived.Maps.Range
namespace Go.Proofs.Ytbmhllcbkeblfaa.Cn
open Go.RowKit
/-- what the owners of a partition hold -/
def ofT (tb : List (List Pr)) (p : Nat) : List Pr := if ((tb[p]?).getD []).length ≤ 512 then (tb[p]?).getD [] else []
theorem ofT_len (tb : List (List Pr)) (p : Nat) : (ofT tb p).length ≤ 512 := by
  unfold ofT
  split
  · assumption
  · simp
/-- the pairs of the partitions ahead of p that are not missing -/
def whl (tb : List (List Pr)) (ms : List Int) : Nat → List Pr
  | 0 => []
  | p + 1 => whl tb ms p ++ if (p : Int) ∈ ms then [] else ofT tb p
theorem whl_more (tb : List (List Pr)) (ms : List Int) (q : Int) : ∀ p : Nat, (p : Int) ≤ q → whl tb (ms ++ [q]) p = whl tb ms p
  | 0, _ => rfl
  | p + 1, h => by
    unfold whl
    rw [whl_more tb ms q p (by omega)]
    congr 1
    by_cases e : (p : Int) ∈ ms
    · rw [if_pos e, if_pos (List.mem_append_left _ e)]
    · rw [if_neg e, if_neg (fun z => by
        rcases List.mem_append.1 z with z | z
        · exact e z
        · have := List.mem_singleton.1 z
          omega)]
/-- the law's talk -/
structure Tk where
  q : Mg
  op : Bool
  old : List Mg
  pt : Int
  lf : Int
  ms : List Int
  st : Int
def hearT (t : Tk) (L : List Mg) : Tk := match L with
  | [m] => { t with q := m, op := true }
  | _ => t
def leavesT (t : Tk) (R : Int) (p : Int) : Tk := if t.lf + 1 = R then { t with lf := 0, ms := t.ms ++ [p] } else { t with lf := t.lf + 1 }
/-- the answer of an owner -/
def rightM (tb : List (List Pr)) (q : Mg) : Mg := match (ofT tb q.sq.toNat)[q.prev.toNat]? with
  | some p => ⟨16, q.td, q.fr, q.id, 0, q.sq, q.ver, q.prev, 0, p.k, p.v⟩
  | none => ⟨16, q.td, q.fr, q.id, 0, q.sq, q.ver, q.prev, 16, ⟨#[]⟩, ⟨#[]⟩⟩
/-- an export that is talked to: all but the talk's own fields -/
structure Tj (tb : List (List Pr)) (ver : Int) (R n : Nat) (e : Ex) (old : List Mg) (ms : List Int) : Prop where
  ok : Eok e R n
  b : busyB e = true
  jb : e.told.jb = 1
  vr : e.told.vr = ver
  msq : ms = e.told.ms
  rd : e.rd = (ofT tb e.part).take e.rd.length
  ps : e.told.ps = whl tb ms e.part
  mlt : ∀ q ∈ ms, q < (e.part : Int)
  ris : ms.Pairwise (· < ·) ∧ ∀ q ∈ ms, 0 ≤ q
  old : ∀ m ∈ old, m.sq < (e.part : Int) ∨ (m.sq = (e.part : Int) ∧ m.prev < (e.rd.length : Int))
/-- an older answer is none to the question of now -/
theorem old_not {tb : List (List Pr)} {ver : Int} {R n : Nat} {e : Ex} {old : List Mg} {ms : List Int} (h : Tj tb ver R n e old ms) {m : Mg} (hm : m ∈ old) : isAns e m = false := by
  have j := (h.ok.job h.b).w
  rcases h.old m hm with z | ⟨z1, z2⟩
  · unfold isAns
    have : (m.sq == e.wp) = false := by rw [beq_eq_false_iff_ne]; omega
    rw [this]
    simp
  · unfold isAns
    have : (m.prev == e.wl) = false := by rw [beq_eq_false_iff_ne]; omega
    rw [this]
    simp
theorem old_take {tb : List (List Pr)} {ver : Int} {R n : Nat} {e : Ex} {old : List Mg} {ms : List Int} (h : Tj tb ver R n e old ms) {m : Mg} (hm : m ∈ old) : takeX e m = e ∧ takeL e m = [] := by
  unfold takeX takeL
  rw [old_not h hm]
  exact ⟨rfl, rfl⟩
/-- an answer to the question of now, whatever its code -/
def ansOf (q m : Mg) : Prop := m.kind = 16 ∧ m.fr = q.td ∧ m.id = q.id ∧ m.sq = q.sq ∧ m.ver = q.ver ∧ m.prev = q.prev
theorem right_ans (tb : List (List Pr)) (q : Mg) : ansOf q (rightM tb q) := by
  unfold rightM
  split <;> exact ⟨rfl, rfl, rfl, rfl, rfl, rfl⟩
theorem ans_is {e : Ex} {R n : Nat} (ok : Eok e R n) (hb : busyB e = true) {m : Mg} (h : ansOf (askM e) m) : isAns e m = true := by
  obtain ⟨h1, h2, h3, h4, h5, h6⟩ := h
  obtain ⟨w1, w2, w3, w4, w5⟩ := (ok.job hb).w
  unfold isAns
  rw [hb, h1, h2, h3, h4, h5, h6, w1, w2, w3, w4, w5]
  simp [askM]
/-- what comes of a partition's end, or of an owner that is left: it goes on, or it has ended -/
inductive Goes (tb : List (List Pr)) (ver : Int) (R n : Nat) (old : List Mg) (ms : List Int) (e' : Ex) (L : List Mg) : Prop
  | on (h : Tj tb ver R n e' old ms) (hL : L = [askM e']) (h0 : e'.at_ = e'.now)
  | end_ (hb : busyB e' = false) (hL : L = []) (h1 : e'.last.jb = 1) (h2 : e'.last.vr = ver) (h3 : e'.last.ms = ms) (h4 : e'.last.ps = whl tb ms e'.rows.length) (h5 : ms.Pairwise (· < ·) ∧ ∀ q ∈ ms, 0 ≤ q) (ok : Eok e' R n)
theorem goes_up {tb : List (List Pr)} {ver : Int} {R n : Nat} {e : Ex} {old : List Mg} (k : Mok e R n) (jb : e.told.jb = 1) (vr : e.told.vr = ver) {p : Nat} (hp : p < e.rows.length) (hps : e.told.ps = whl tb e.told.ms (p + 1)) (hpl : e.told.ps.length ≤ 512 * (p + 1)) (hml : e.told.ms.length ≤ p + 1) (hmlt : ∀ q ∈ e.told.ms, q < ((p + 1 : Nat) : Int)) (hris : e.told.ms.Pairwise (· < ·) ∧ ∀ q ∈ e.told.ms, 0 ≤ q) (hold : ∀ m ∈ old, m.sq ≤ (p : Int)) : Goes tb ver R (n + 1) old e.told.ms (upX e (p + 1)) (upL e (p + 1)) := by
  have ok := upX_ok k (p := p + 1) (by omega) hpl hml
  by_cases q : p + 1 = e.rows.length
  · have e1 : upX e (p + 1) = endX e := if_pos q
    have e2 : upL e (p + 1) = [] := if_pos q
    rw [e1] at ok
    rw [e1, e2]
    exact .end_ (by simp [busyB, endX, rp0]) rfl jb vr rfl (by show e.told.ps = whl tb e.told.ms e.rows.length; rw [← q]; exact hps) hris ok
  · have e1 : upX e (p + 1) = askX (setP e (p + 1)) := if_neg q
    have e2 : upL e (p + 1) = [askM (setP e (p + 1))] := if_neg q
    rw [e1] at ok
    rw [e1, e2]
    exact .on ⟨ok, busy_iff.2 (by show e.told.jb ≠ 0; omega), jb, vr, rfl, rfl, hps, hmlt, hris, fun m hm => Or.inl (by have := hold m hm; show m.sq < ((p + 1 : Nat) : Int); omega)⟩ rfl rfl
/-- an owner is left (behind a message or in a tick): the talk's own count goes along -/
theorem goes_lv {tb : List (List Pr)} {ver : Int} {R n : Nat} {e : Ex} {old : List Mg} {ms : List Int} (h : Tj tb ver R n e old ms) (now' : Int) (hn : 0 ≤ now' ∧ now' ≤ ((n + 1 : Nat) : Int)) (e' : Ex) (he : e' = { e with now := now' }) : Goes tb ver R (n + 2) old (if e.left + 1 = R then ms ++ [(e.part : Int)] else ms) (lvX e') (lvL e') := by
  subst he
  have j := h.ok.job h.b
  have k := h.ok.mok h.b
  have hr := rowAt_len h.ok j.pt
  have j1 := j.pt; have j2 := j.lf; have j3 := j.pl; have j4 := j.ml; have j5 := j.rl
  have k' : Mok { e with now := now' } R (n + 1) := ⟨k.p1, k.rw_, k.r1, k.gw, hn, by have := k.lj; show 0 ≤ e.last.jb ∧ e.last.jb ≤ _; omega, k.ll, k.jn⟩
  have hr' : (rowAt { e with now := now' } ({ e with now := now' } : Ex).part).length = R := hr
  unfold lvX lvL
  rw [hr']
  by_cases q : e.left + 1 < R
  · rw [if_pos (show ({ e with now := now' } : Ex).left + 1 < R from q), if_pos (show ({ e with now := now' } : Ex).left + 1 < R from q), if_neg (by omega)]
    exact .on ⟨(askX_ok (e := nxtX { e with now := now' }) ⟨k'.p1, k'.rw_, k'.r1, k'.gw, k'.nw, k'.lj, k'.ll, k'.jn⟩ j1 q j5 j3 j4).more (by omega), busy_iff.2 (by show e.told.jb ≠ 0; have := h.jb; omega), h.jb, h.vr, h.msq, h.rd, h.ps, h.mlt, h.ris, h.old⟩ rfl rfl
  · rw [if_neg (show ¬ ({ e with now := now' } : Ex).left + 1 < R from q), if_neg (show ¬ ({ e with now := now' } : Ex).left + 1 < R from q), if_pos (by omega)]
    have hm : (missX { e with now := now' }).told.ms = ms ++ [(e.part : Int)] := by rw [h.msq]; rfl
    have z := goes_up (tb := tb) (ver := ver) (old := old) (e := missX { e with now := now' }) (R := R) (n := n + 1) (p := e.part) ⟨k'.p1, k'.rw_, k'.r1, k'.gw, k'.nw, k'.lj, k'.ll, k'.jn⟩ h.jb h.vr j1 (by
      show e.told.ps = _
      rw [hm, h.ps]
      show whl tb ms e.part = whl tb (ms ++ [(e.part : Int)]) e.part ++ if (e.part : Int) ∈ ms ++ [(e.part : Int)] then [] else ofT tb e.part
      rw [whl_more tb ms _ _ (Int.le_refl _), if_pos (List.mem_append_right _ (by simp)), List.append_nil]
      ) (by show e.told.ps.length ≤ _; omega) (by rw [hm, h.msq]; simp; omega) (by
      rw [hm]
      intro x hx
      rcases List.mem_append.1 hx with y | y
      · have := h.mlt x y
        omega
      · have := List.mem_singleton.1 y
        omega) (by
      rw [hm]
      refine ⟨List.pairwise_append.2 ⟨h.ris.1, by simp, fun x hx y hy => ?_⟩, fun x hx => ?_⟩
      · have := List.mem_singleton.1 hy
        have := h.mlt x hx
        omega
      · rcases List.mem_append.1 hx with y | y
        · exact h.ris.2 x y
        · have := List.mem_singleton.1 y
          omega) (fun m hmm => by
      rcases h.old m hmm with y | ⟨y, _⟩
      · omega
      · omega)
    rw [hm] at z
    exact z
/-- a question that is answered rightly -/
theorem goes_right {tb : List (List Pr)} {ver : Int} {R n : Nat} {e : Ex} {old : List Mg} {ms : List Int} (h : Tj tb ver R n e old ms) : Goes tb ver R (n + 1) (old ++ [rightM tb (askM e)]) ms (takeX e (rightM tb (askM e))) (takeL e (rightM tb (askM e))) ∧ ((rightM tb (askM e)).code = 0 ∨ (rightM tb (askM e)).code = 16) := by
  have j := h.ok.job h.b
  have k := h.ok.mok h.b
  have j1 := j.pt; have j2 := j.lf; have j3 := j.pl; have j4 := j.ml; have j5 := j.rl
  have ha := ans_is h.ok h.b (right_ans tb (askM e))
  have hm : rightM tb (askM e) = match (ofT tb e.part)[e.rd.length]? with
    | some p => ⟨16, ownr e, 67, e.told.jb, 0, (e.part : Int), e.told.vr, (e.rd.length : Int), 0, p.k, p.v⟩
    | none => ⟨16, ownr e, 67, e.told.jb, 0, (e.part : Int), e.told.vr, (e.rd.length : Int), 16, ⟨#[]⟩, ⟨#[]⟩⟩ := rfl
  have hl := ofT_len tb e.part
  have hrd := h.rd
  unfold takeX takeL
  rw [if_pos ha, if_pos ha]
  obtain ⟨m, hmm⟩ : ∃ m, m = rightM tb (askM e) := ⟨_, rfl⟩
  rw [← hmm] at hm ha ⊢
  clear hmm
  by_cases q : e.rd.length < (ofT tb e.part).length
  · rw [List.getElem?_eq_getElem q] at hm
    have c0 : m.code = 0 := by rw [hm]
    have cq : m.sq = (e.part : Int) := by rw [hm]
    have cp : m.prev = (e.rd.length : Int) := by rw [hm]
    have ck : (⟨m.key, m.val⟩ : Pr) = (ofT tb e.part)[e.rd.length] := by rw [hm]
    refine ⟨?_, Or.inl c0⟩
    unfold hearX hearL
    have n16 : ¬ m.code = 16 := by omega
    have y0 : m.code = 0 ∧ e.rd.length < 512 := ⟨c0, by omega⟩
    rw [if_neg n16, if_neg n16, if_pos y0, if_pos y0]
    have hrl : (readX e m).rd = (ofT tb e.part).take (e.rd.length + 1) := by
      show e.rd ++ [(⟨m.key, m.val⟩ : Pr)] = _
      rw [ck, List.take_succ_eq_append_getElem q, ← hrd]
    have hll : (readX e m).rd.length = e.rd.length + 1 := by show (e.rd ++ [_]).length = _; simp
    refine .on ⟨(askX_ok (e := readX e m) ⟨k.p1, k.rw_, k.r1, k.gw, k.nw, k.lj, k.ll, k.jn⟩ j1 j2 (by rw [hll]; omega) j3 j4).more (by omega), busy_iff.2 (by show e.told.jb ≠ 0; have := h.jb; omega), h.jb, h.vr, h.msq, ?_, h.ps, h.mlt, h.ris, fun x hx => ?_⟩ rfl rfl
    · show (readX e m).rd = (ofT tb e.part).take (readX e m).rd.length
      rw [hll]
      exact hrl
    · show x.sq < (e.part : Int) ∨ (x.sq = (e.part : Int) ∧ x.prev < ((readX e m).rd.length : Int))
      rw [hll]
      rcases List.mem_append.1 hx with y | y
      · rcases h.old x y with z | ⟨z1, z2⟩
        · exact Or.inl z
        · exact Or.inr ⟨z1, by omega⟩
      · rw [List.mem_singleton.1 y]
        exact Or.inr ⟨cq, by omega⟩
  · rw [List.getElem?_eq_none (by omega)] at hm
    have c0 : m.code = 16 := by rw [hm]
    have cq : m.sq = (e.part : Int) := by rw [hm]
    have full : e.rd = ofT tb e.part := by rw [hrd]; exact List.take_of_length_le (by omega)
    refine ⟨?_, Or.inr c0⟩
    unfold hearX hearL
    rw [if_pos c0, if_pos c0]
    have hnm : ¬ (e.part : Int) ∈ ms := fun z => by
      have := h.mlt _ z
      omega
    have z := goes_up (tb := tb) (ver := ver) (old := old ++ [m]) (e := doneX e) (R := R) (n := n) (p := e.part) ⟨k.p1, k.rw_, k.r1, k.gw, k.nw, k.lj, k.ll, k.jn⟩ h.jb h.vr j1 (by
      show e.told.ps ++ e.rd = whl tb e.told.ms e.part ++ if (e.part : Int) ∈ e.told.ms then [] else ofT tb e.part
      rw [← h.msq, if_neg hnm, h.ps, full]) (by show (e.told.ps ++ e.rd).length ≤ _; simp; omega) (by show e.told.ms.length ≤ _; omega) (by
      show ∀ q ∈ e.told.ms, _
      rw [← h.msq]
      intro x hx
      have := h.mlt x hx
      omega) (by
      show e.told.ms.Pairwise (· < ·) ∧ ∀ q ∈ e.told.ms, 0 ≤ q
      rw [← h.msq]
      exact h.ris) (fun x hx => by
      rcases List.mem_append.1 hx with y | y
      · rcases h.old x y with z | ⟨z, _⟩
        · omega
        · omega
      · rw [List.mem_singleton.1 y]
        omega)
    have e1 : (doneX e).told.ms = ms := h.msq.symm
    rw [e1] at z
    exact z
/-- a question that is answered by an error -/
theorem goes_err {tb : List (List Pr)} {ver : Int} {R n : Nat} {e : Ex} {old : List Mg} {ms : List Int} (h : Tj tb ver R n e old ms) (m : Mg) (ha : ansOf (askM e) m) (h0 : m.code ≠ 0) (h1 : m.code ≠ 16) : Goes tb ver R (n + 2) old (if e.left + 1 = R then ms ++ [(e.part : Int)] else ms) (takeX e m) (takeL e m) := by
  have z := goes_lv h e.now (by have := h.ok.nw; omega) e rfl
  unfold takeX takeL
  rw [if_pos (ans_is h.ok h.b ha), if_pos (ans_is h.ok h.b ha)]
  unfold hearX hearL
  have n0 : ¬ (m.code = 0 ∧ e.rd.length < 512) := fun q => h0 q.1
  rw [if_neg h1, if_neg h1, if_neg n0, if_neg n0]
  exact z
/-- k silent ticks, fewer than GetWait -/
def nowN (e : Ex) (k : Nat) : Ex := { e with now := e.now + (k : Int) }
theorem tick_wait {e : Ex} (h0 : e.at_ = e.now) (k : Nat) (hk : (k : Int) + 1 < e.gw) : tickX (nowN e k) = nowN e (k + 1) ∧ tickL (nowN e k) = [] := by
  have d : dueB (nowX (nowN e k)) = false := by
    unfold dueB
    have : ((nowX (nowN e k)).now - (nowX (nowN e k)).at_ == (nowX (nowN e k)).gw) = false := by
      rw [beq_eq_false_iff_ne]
      show e.now + (k : Int) + 1 - e.at_ ≠ e.gw
      omega
    rw [this, Bool.and_false]
  unfold tickX tickL
  rw [d]
  refine ⟨?_, rfl⟩
  show nowX (nowN e k) = nowN e (k + 1)
  unfold nowX nowN
  congr 1
  show e.now + (k : Int) + 1 = e.now + ((k + 1 : Nat) : Int)
  omega
theorem nowN_tj {tb : List (List Pr)} {ver : Int} {R n : Nat} {e : Ex} {old : List Mg} {ms : List Int} (h : Tj tb ver R n e old ms) (h0 : e.at_ = e.now) (k : Nat) (hk : (k : Int) < e.gw) : Tj tb ver R (n + k) (nowN e k) old ms := by
  have j := h.ok.job h.b
  refine ⟨⟨h.ok.p1, h.ok.rw_, h.ok.r1, h.ok.gw, by have := h.ok.nw; show 0 ≤ e.now + (k : Int) ∧ e.now + (k : Int) ≤ _; omega, by have := h.ok.lj; show 0 ≤ e.last.jb ∧ e.last.jb ≤ _; omega, h.ok.ll, h.ok.idle, h.ok.jn, fun _ => ⟨j.pt, j.lf, by show e.at_ ≤ e.now + (k : Int); omega, by show e.now + (k : Int) - e.at_ < e.gw; omega, j.rl, j.pl, j.ml, j.w⟩⟩, h.b, h.jb, h.vr, h.msq, h.rd, h.ps, h.mlt, h.ris, h.old⟩
/-- the tick that makes GetWait: the owner is left -/
theorem tick_last {tb : List (List Pr)} {ver : Int} {R n : Nat} {e : Ex} {old : List Mg} {ms : List Int} (h : Tj tb ver R n e old ms) (h0 : e.at_ = e.now) (k : Nat) (hk : (k : Int) + 1 = e.gw) : Goes tb ver R (n + k + 2) old (if e.left + 1 = R then ms ++ [(e.part : Int)] else ms) (tickX (nowN e k)) (tickL (nowN e k)) := by
  have hT := nowN_tj h h0 k (by omega)
  have d : dueB (nowX (nowN e k)) = true := by
    unfold dueB
    rw [Bool.and_eq_true]
    refine ⟨h.b, ?_⟩
    rw [beq_iff_eq]
    show e.now + (k : Int) + 1 - e.at_ = e.gw
    omega
  have z := goes_lv hT (e.now + (k : Int) + 1) (by have := h.ok.nw; omega) (nowX (nowN e k)) rfl
  unfold tickX tickL
  rw [d]
  exact z
end Go.Proofs.Ytbmhllcbkeblfaa.Cn
namespace Go.Proofs.Ytbmhllcbkeblfaa.Cn
end Go.Proofs.Ytbmhllcbkeblfaa.Cn
namespace Go.Proofs.Ytbmhllcbkeblfaa.Cn
open Go.RowKit Go.MapKept Go.Maps
open Go.ChangeMaps (setBlock heap_setBlock_same heap_setBlock_other modify_eq_set set_perm)
/-- how keys of a kind lie there -/
structure KeyT (kt : TypeId) (κ : Type) where
  enc : κ → Value
  ok : κ → Prop
  law : Keyed Try.prog kt
  key : ∀ k, ok k → ∃ l, keyOf Try.prog kt (enc k) = some l
  inj : ∀ a b, enc a = enc b → a = b
variable {kt : TypeId} {κ : Type}
def enL (T : KeyT kt κ) (L : List (κ × Value)) : List (Value × Value) := L.map fun p => (T.enc p.1, p.2)
def kvs (es : Array MapEntry) : List (Value × Value) := es.toList.map fun x => (x.key, x.val)
/-- the entries of a map, in some order -/
structure Raw (T : KeyT kt κ) (es : Array MapEntry) (clock : Nat) (L : List (κ × Value)) : Prop where
  st : Stamped es clock
  sz : es.size ≤ maxLen
  ks : ∀ p ∈ L, T.ok p.1
  pm : (kvs es).Perm (enL T L)
def Mp (T : KeyT kt κ) (w : World) (M : Nat) (L : List (κ × Value)) : Prop := ∃ es clock, w.heap[M]? = some (.map es clock) ∧ Raw T es clock L
section
variable {T : KeyT kt κ} {es : Array MapEntry} {clock : Nat} {L : List (κ × Value)} {w w' : World} {M : Nat}
theorem Raw.mem (h : Raw T es clock L) {x : MapEntry} (hx : x ∈ es.toList) : ∃ p ∈ L, x.key = T.enc p.1 ∧ x.val = p.2 := by
  have : (x.key, x.val) ∈ enL T L := h.pm.mem_iff.1 (List.mem_map.2 ⟨x, hx, rfl⟩)
  obtain ⟨p, hp, e⟩ := List.mem_map.1 this
  simp only [Prod.mk.injEq] at e
  exact ⟨p, hp, e.1.symm, e.2.symm⟩
theorem Raw.mem' (h : Raw T es clock L) {p : κ × Value} (hp : p ∈ L) : ∃ x ∈ es.toList, x.key = T.enc p.1 ∧ x.val = p.2 := by
  have : (T.enc p.1, p.2) ∈ kvs es := h.pm.mem_iff.2 (List.mem_map.2 ⟨p, hp, rfl⟩)
  obtain ⟨x, hx, e⟩ := List.mem_map.1 this
  simp only [Prod.mk.injEq] at e
  exact ⟨x, hx, e.1, e.2⟩
theorem Raw.keys (h : Raw T es clock L) : ∀ x ∈ es.toList, ∃ l, keyOf Try.prog kt x.key = some l := fun x hx => by
  obtain ⟨p, hp, e, _⟩ := h.mem hx
  rw [e]
  exact T.key _ (h.ks p hp)
theorem Raw.nd (h : Raw T es clock L) : (L.map (·.1)).Nodup := by
  have h1 : ((kvs es).map (·.1)).Nodup := by
    have := ((stamped_iff es clock).1 h.st).2.2
    unfold kvs List.Nodup
    rw [List.map_map, List.pairwise_map]
    exact this
  have h2 : ((enL T L).map (·.1)).Nodup := (h.pm.map _).nodup_iff.1 h1
  unfold enL at h2
  rw [List.map_map] at h2
  have e : ((fun p : Value × Value => p.1) ∘ fun p : κ × Value => (T.enc p.1, p.2)) = T.enc ∘ (fun p : κ × Value => p.1) := rfl
  rw [e, ← List.map_map] at h2
  exact (List.pairwise_map.1 h2).imp (fun h e => h (by rw [e]))
theorem Mp.nd (h : Mp T w M L) : (L.map (·.1)).Nodup := by
  obtain ⟨es, clock, _, hr⟩ := h
  exact hr.nd
theorem Mp.lt (h : Mp T w M L) : M < w.heap.size := by
  obtain ⟨es, clock, hb, _⟩ := h
  exact blk_lt hb
theorem Mp.same (h : Mp T w M L) (e : w'.heap[M]? = w.heap[M]?) : Mp T w' M L := by
  obtain ⟨es, clock, hb, hr⟩ := h
  exact ⟨es, clock, e.trans hb, hr⟩
theorem Mp.kp {S : Nat → Prop} (h : Mp T w M L) (hk : Kp w w' S) (hM : ¬ S M) : Mp T w' M L := h.same (hk.block _ h.lt hM)
theorem Mp.kind (h : Mp T w M L) {c : Array Value} {t : TypeId} {f : Nat × Nat} : w.heap[M]? ≠ some (.cells c t f) := by
  obtain ⟨es, clock, hb, _⟩ := h
  rw [hb]
  simp
theorem Mp.perm (h : Mp T w M L) {L' : List (κ × Value)} (hp : L.Perm L') : Mp T w M L' := by
  obtain ⟨es, clock, hb, hr⟩ := h
  exact ⟨es, clock, hb, hr.st, hr.sz, fun p q => hr.ks p (hp.mem_iff.2 q), hr.pm.trans (hp.map _)⟩
theorem Mp.made (T : KeyT kt κ) (w : World) : Mp T (w.alloc (.map #[] 0)) w.heap.size [] := ⟨#[], 0, heap_last _ _, stamped_empty 0, by simp, by simp, List.Perm.refl _⟩
theorem setB_at {X : World} {o o' : Obj} (h : X.heap[M]? = some o) : (setBlock X M o').heap[M]? = some o' := by
  simp [setBlock, (Array.getElem?_eq_some_iff.1 h).1]
theorem setB_kp {X : World} {o' : Obj} : Kp X (setBlock X M o') (fun k => k = M) := ⟨rfl, rfl, rfl, by simp [setBlock], fun i _ hi => by
  simp only [setBlock]
  rw [Array.getElem?_setIfInBounds_ne (fun e => hi e.symm)]⟩
theorem Mp.ok (h : Mp T w M L) : ∀ p ∈ L, T.ok p.1 := by
  obtain ⟨es, clock, hb, hr⟩ := h
  exact hr.ks
end
theorem perm_at {α : Type} {l : List α} {j : Nat} {x : α} (h : l[j]? = some x) : l.Perm (x :: l.eraseIdx j) := by
  induction l generalizing j with
  | nil => simp at h
  | cons a r ih =>
    cases j with
    | zero =>
      simp only [List.getElem?_cons_zero, Option.some.injEq] at h
      subst h
      exact List.Perm.refl _
    | succ j =>
      rw [List.getElem?_cons_succ] at h
      exact (List.Perm.cons a (ih h)).trans (List.Perm.swap _ _ _)
variable [DecidableEq κ]
def look (L : List (κ × Value)) (k : κ) : Option Value := (L.find? (fun p => p.1 = k)).map (·.2)
def dele {α : Type} (L : List (κ × α)) (k : κ) : List (κ × α) := L.filter (fun p => p.1 ≠ k)
def putt {α : Type} (L : List (κ × α)) (k : κ) (v : α) : List (κ × α) := dele L k ++ [(k, v)]
section
variable {T : KeyT kt κ} {es : Array MapEntry} {clock : Nat} {L : List (κ × Value)} {w w' : World} {M : Nat}
theorem nd_find {α : Type} {L : List (κ × α)} (h : (L.map (·.1)).Nodup) {p : κ × α} (hp : p ∈ L) : L.find? (fun q => decide (q.1 = p.1)) = some p := by
  induction L with
  | nil => simp at hp
  | cons a r ih =>
    rw [List.map_cons, List.nodup_cons] at h
    rcases List.mem_cons.1 hp with rfl | hp'
    · simp
    · have hne : a.1 ≠ p.1 := fun e => h.1 (e ▸ List.mem_map.2 ⟨p, hp', rfl⟩)
      simp [hne, ih h.2 hp']
theorem look_mem (h : (L.map (·.1)).Nodup) {p : κ × Value} (hp : p ∈ L) : look L p.1 = some p.2 := by
  unfold look
  rw [nd_find h hp]
  rfl
theorem look_none {k : κ} (h : ∀ p ∈ L, p.1 ≠ k) : look L k = none := by
  unfold look
  rw [List.find?_eq_none.2 (by simpa using h)]
  rfl
/-- 'm[k]' -/
theorem Mp.lookup {t e : TypeId} {z : Value} (h : Mp T w M L) (ht : Try.prog.underlying t = some (.map kt e)) (hz : ∀ X, (zeroValue e).run Try.prog X = .ok z X) {k : κ} (hk : T.ok k) :
    (Instr.lookup t (.map (some M)) (T.enc k) false).run Try.prog w = .ok ((look L k).getD z) w := by
  obtain ⟨es, clock, hb, hr⟩ := h
  obtain ⟨kl, hkey⟩ := T.key k hk
  rcases T.law.find w hkey es.toList hr.keys with ⟨h1, h2⟩ | ⟨j, e0, h1, h2, h3⟩
  · have hn : look L k = none := look_none (fun p hp ep => by
      obtain ⟨x, hx, ex, _⟩ := hr.mem' hp
      exact h2 x hx (by rw [ex, ep]))
    rw [hn]
    simp [Instr.lookup, run_underlying ht, MapKept.run_getObj_map hb, T.law.check w _ hkey, h1, hz]
  · have hx : e0 ∈ es.toList := List.mem_of_getElem? h2
    obtain ⟨p, hp, ep, ev⟩ := hr.mem hx
    have : p.1 = k := T.inj _ _ (ep.symm.trans h3)
    have hl := look_mem hr.nd hp
    rw [this] at hl
    rw [hl]
    simp [Instr.lookup, run_underlying ht, MapKept.run_getObj_map hb, T.law.check w _ hkey, h1, ev]
theorem filter_ne_all {α : Type} {L : List (κ × α)} {k : κ} (h : ∀ p ∈ L, p.1 ≠ k) : dele L k = L := List.filter_eq_self.2 (by simpa using h)
theorem enL_dele (T : KeyT kt κ) (L : List (κ × Value)) (k : κ) : ∀ p ∈ enL T (dele L k), p.1 ≠ T.enc k := fun p hp => by
  obtain ⟨q, hq, rfl⟩ := List.mem_map.1 hp
  simp only [dele, ne_eq, decide_not, List.mem_filter, Bool.not_eq_true', decide_eq_false_iff_not] at hq
  exact fun e => hq.2 (T.inj _ _ e)
theorem perm_split {α : Type} {L : List (κ × α)} (hn : (L.map (·.1)).Nodup) {p : κ × α} (hp : p ∈ L) : L.Perm (p :: dele L p.1) := by
  induction L with
  | nil => simp at hp
  | cons a r ih =>
    rw [List.map_cons, List.nodup_cons] at hn
    by_cases e : a.1 = p.1
    · have ea : a = p := by
        rcases List.mem_cons.1 hp with rfl | hp'
        · rfl
        · exact absurd (List.mem_map.2 ⟨p, hp', e.symm⟩) hn.1
      subst ea
      have : dele (a :: r) a.1 = r := by
        unfold dele
        rw [List.filter_cons_of_neg (by simp)]
        exact filter_ne_all (fun q hq eq => hn.1 (List.mem_map.2 ⟨q, hq, eq⟩))
      rw [this]
    · have hp' : p ∈ r := by
        rcases List.mem_cons.1 hp with rfl | hp'
        · exact absurd rfl e
        · exact hp'
      have : dele (a :: r) p.1 = a :: dele r p.1 := by
        unfold dele
        rw [List.filter_cons_of_pos (by simpa using e)]
      rw [this]
      exact (List.Perm.cons a (ih hn.2 hp')).trans (List.Perm.swap _ _ _)
theorem len_dele {α : Type} (L : List (κ × α)) (k : κ) : (dele L k).length ≤ L.length := List.length_filter_le _ _
/-- 'm[k] = v' -/
theorem Mp.put {t e : TypeId} (h : Mp T w M L) (ht : Try.prog.underlying t = some (.map kt e)) {k : κ} (hk : T.ok k) (v : Value) (hl : L.length < maxLen) :
    ∃ X, (Instr.mapUpdate t (.map (some M)) (T.enc k) v).run Try.prog w = .ok () X ∧ Mp T X M (putt L k v) ∧ Kp w X (fun b => b = M) := by
  obtain ⟨es, clock, hb, hr⟩ := h
  obtain ⟨kl, hkey⟩ := T.key k hk
  have hsz : es.size = L.length := by
    have := hr.pm.length_eq
    simpa [kvs, enL] using this
  have oks : ∀ p ∈ putt L k v, T.ok p.1 := fun p hp => by
    rcases List.mem_append.1 hp with hp | hp
    · exact hr.ks p (List.mem_filter.1 hp).1
    · rw [List.mem_singleton.1 hp]; exact hk
  rcases T.law.find w hkey es.toList hr.keys with ⟨h1, h2⟩ | ⟨j, e0, h1, h2, h3⟩
  · refine ⟨setBlock w M (.map (es.push ⟨T.enc k, v, clock⟩) (clock + 1)), ?_, ⟨_, _, setB_at hb, stamped_push hr.st h2, by simp; omega, oks, ?_⟩, setB_kp⟩
    · simp [Instr.mapUpdate, run_underlying ht, MapKept.run_getObj_map hb, T.law.check w false hkey, h1, MapKept.run_setObj_map _ hb, Result.andThen, setBlock]
    · have hn : dele L k = L := filter_ne_all (fun p hp ep => by
        obtain ⟨x, hx, ex, _⟩ := hr.mem' hp
        exact h2 x hx (by rw [ex, ep]))
      unfold putt
      rw [hn]
      have := hr.pm
      unfold kvs enL at *
      simp only [Array.toList_push, List.map_append, List.map_cons, List.map_nil]
      exact this.append_right _
  · have hj : es[j]? = some e0 := by simpa using h2
    have hjl : j < es.toList.length := (List.getElem?_eq_some_iff.1 h2).1
    have hlist : (es.modify j (fun e' => { e' with key := T.enc k, val := v })).toList = es.toList.set j { e0 with key := T.enc k, val := v } := by rw [Array.toList_modify, modify_eq_set _ _ _ _ h2]
    refine ⟨setBlock w M (.map (es.modify j (fun e' => { e' with key := T.enc k, val := v })) clock), ?_, ⟨_, _, setB_at hb, stamped_modify hr.st _ _ (fun _ _ => rfl) (fun e' _ he' => by rw [hj] at he'; cases he'; exact h3.symm), by simpa using hr.sz, oks, ?_⟩, setB_kp⟩
    · simp [Instr.mapUpdate, run_underlying ht, MapKept.run_getObj_map hb, T.law.check w false hkey, h1, hj, h3, T.law.stays w hkey, MapKept.run_setObj_map _ hb, Result.andThen, setBlock]
    · have hx : e0 ∈ es.toList := List.mem_of_getElem? h2
      obtain ⟨p, hp, ep, ev⟩ := hr.mem hx
      have pk : p.1 = k := T.inj _ _ (ep.symm.trans h3)
      unfold kvs
      rw [hlist, List.map_set]
      refine (set_perm _ _ (by simpa using hjl) _).trans ?_
      have e1 : ((es.toList.map fun x => (x.key, x.val)).eraseIdx j).Perm (enL T (dele L k)) := by
        have a1 : (es.toList.map fun x => (x.key, x.val)).Perm ((e0.key, e0.val) :: (es.toList.map fun x => (x.key, x.val)).eraseIdx j) := perm_at (by simp [h2])
        have a2 : (enL T L).Perm ((e0.key, e0.val) :: enL T (dele L k)) := by
          have := (perm_split hr.nd hp).map (fun p : κ × Value => (T.enc p.1, p.2))
          rw [List.map_cons, ← ep, ← ev, pk] at this
          exact this
        exact (a1.symm.trans (hr.pm.trans a2)).cons_inv
      unfold putt enL
      rw [List.map_append]
      exact (List.Perm.cons _ e1).trans (List.perm_append_singleton _ _).symm
/-- 'delete(m, k)' -/
theorem Mp.del {t e ty : TypeId} (h : Mp T w M L) (ht : Try.prog.underlying t = some (.map kt e)) {k : κ} (hk : T.ok k) :
    ∃ X, (Builtin.delete_ #[t, kt] ty #[.map (some M), T.enc k]).run Try.prog w = .ok (.tuple #[]) X ∧ Mp T X M (dele L k) ∧ Kp w X (fun b => b = M) := by
  obtain ⟨es, clock, hb, hr⟩ := h
  obtain ⟨kl, hkey⟩ := T.key k hk
  have oks : ∀ p ∈ dele L k, T.ok p.1 := fun p hp => hr.ks p (List.mem_filter.1 hp).1
  rcases T.law.find w hkey es.toList hr.keys with ⟨h1, h2⟩ | ⟨j, e0, h1, h2, h3⟩
  · have hn : dele L k = L := filter_ne_all (fun p hp ep => by
      obtain ⟨x, hx, ex, _⟩ := hr.mem' hp
      exact h2 x hx (by rw [ex, ep]))
    rw [hn]
    refine ⟨setBlock w M (.map es clock), ?_, ⟨_, _, setB_at hb, hr⟩, setB_kp⟩
    simp [Builtin.delete_, run_underlying ht, MapKept.run_getObj_map hb, T.law.check w _ hkey, h1, MapKept.run_setObj_map _ hb, Result.andThen, setBlock]
  · have hjl : j < es.toList.length := (List.getElem?_eq_some_iff.1 h2).1
    have hjs : j < es.size := by simpa using hjl
    have hsub : (es.eraseIdxIfInBounds j).toList = es.toList.eraseIdx j := by
      unfold Array.eraseIdxIfInBounds
      rw [dif_pos hjs]
      simp
    refine ⟨setBlock w M (.map (es.eraseIdxIfInBounds j) clock), ?_, ⟨_, _, setB_at hb, stamped_erase hr.st j, Nat.le_trans (MapFrom.size_erase es j) hr.sz, oks, ?_⟩, setB_kp⟩
    · simp [Builtin.delete_, run_underlying ht, MapKept.run_getObj_map hb, T.law.check w _ hkey, h1, MapKept.run_setObj_map _ hb, Result.andThen, setBlock]
    · have hx : e0 ∈ es.toList := List.mem_of_getElem? h2
      obtain ⟨p, hp, ep, ev⟩ := hr.mem hx
      have pk : p.1 = k := T.inj _ _ (ep.symm.trans h3)
      unfold kvs
      rw [hsub, Go.ChangeMaps.map_eraseIdx]
      have a1 : (es.toList.map fun x => (x.key, x.val)).Perm ((e0.key, e0.val) :: (es.toList.map fun x => (x.key, x.val)).eraseIdx j) := perm_at (by simp [h2])
      have a2 : (enL T L).Perm ((e0.key, e0.val) :: enL T (dele L k)) := by
        have := (perm_split hr.nd hp).map (fun p : κ × Value => (T.enc p.1, p.2))
        rw [List.map_cons, ← ep, ← ev, pk] at this
        exact this
      exact (a1.symm.trans (hr.pm.trans a2)).cons_inv
end
end Go.Proofs.Ytbmhllcbkeblfaa.Cn
namespace Go.Proofs.Ytbmhllcbkeblfaa.Cn
open Go.RowKit Go.MapKept Go.Maps
open Go.ChangeMaps (setBlock heap_setBlock_same heap_setBlock_other modify_eq_set set_perm)
variable {kt : TypeId} {κ : Type}
/-- a range over a map under way: 'rest' is still to come -/
def Rg (T : KeyT kt κ) (w : World) (M r : Nat) (L rest : List (κ × Value)) : Prop :=
  ∃ es clock since seen c0, w.heap[M]? = some (.map es clock) ∧ Raw T es clock L ∧ w.heap[r]? = some (.mapIter (some M) since seen c0) ∧ (∀ x ∈ es.toList, x.born < since) ∧ since ≤ c0 ∧ since ≤ clock ∧ (((leftOf es seen).toList.map fun x => (x.key, x.val)).Perm (enL T rest)) ∧ (∀ p ∈ rest, p ∈ L)
section
variable {T : KeyT kt κ} {L rest : List (κ × Value)} {w w' : World} {M r : Nat}
theorem Rg.mp (h : Rg T w M r L rest) : Mp T w M L := by
  obtain ⟨es, clock, since, seen, c0, h1, h2, _⟩ := h
  exact ⟨es, clock, h1, h2⟩
theorem Rg.ne (h : Rg T w M r L rest) : r ≠ M := by
  obtain ⟨es, clock, since, seen, c0, h1, h2, h3, _⟩ := h
  rintro rfl
  rw [h1] at h3
  simp at h3
theorem Rg.lt (h : Rg T w M r L rest) : r < w.heap.size := by
  obtain ⟨es, clock, since, seen, c0, h1, h2, h3, _⟩ := h
  exact blk_lt h3
theorem Rg.kp {S : Nat → Prop} (h : Rg T w M r L rest) (hk : Kp w w' S) (hM : ¬ S M) (hr : ¬ S r) : Rg T w' M r L rest := by
  have l1 := h.mp.lt
  have l2 := h.lt
  obtain ⟨es, clock, since, seen, c0, h1, h2, h3, h4⟩ := h
  exact ⟨es, clock, since, seen, c0, (hk.block _ l1 hM).trans h1, h2, (hk.block _ l2 hr).trans h3, h4⟩
theorem Rg.perm (h : Rg T w M r L rest) {rest' : List (κ × Value)} (hp : rest.Perm rest') : Rg T w M r L rest' := by
  obtain ⟨es, clock, since, seen, c0, h1, h2, h3, h4, h5, h6, h7, h8⟩ := h
  exact ⟨es, clock, since, seen, c0, h1, h2, h3, h4, h5, h6, h7.trans (hp.map _), fun p q => h8 p (hp.mem_iff.2 q)⟩
def rgLeft (w : World) (M r : Nat) : Nat := w.rangeLeft M r
theorem Rg.left (h : Rg T w M r L rest) : w.rangeLeft M r = rest.length := by
  obtain ⟨es, clock, since, seen, c0, h1, h2, h3, h4, h5, h6, h7, h8⟩ := h
  unfold World.rangeLeft
  rw [h1, h3]
  have := h7.length_eq
  simpa [enL] using this
/-- 'range m' -/
theorem Mp.range {t e : TypeId} (h : Mp T w M L) (ht : Try.prog.underlying t = some (.map kt e)) :
    ∃ X, (Instr.range t (.map (some M))).run Try.prog w = .ok (.pointer (some ⟨w.heap.size, 0, none⟩)) X ∧ Rg T X M w.heap.size L L ∧ Below w.heap.size w X ∧ X.heap.size = w.heap.size + 1 := by
  have hlt := h.lt
  obtain ⟨es, clock, hb, hr⟩ := h
  refine ⟨_, run_range_map w t kt e M es clock ht hb, ⟨es, clock, clock, #[], clock, ((MapKept.heap_alloc w _).2 M hlt).trans hb, hr, (MapKept.heap_alloc w _).1, ((stamped_iff es clock).1 hr.st).1, Nat.le_refl _, Nat.le_refl _, ?_, fun _ q => q⟩, (Below.refl _ w).alloc (Nat.le_refl _) _, by simp⟩
  have : leftOf es #[] = es := by simp [leftOf]
  rw [this]
  exact hr.pm
theorem flt_push (l : List MapEntry) (seen : Array Nat) (e : MapEntry) (hn : (l.map (·.born)).Nodup) (he : e ∈ l.filter fun x => !seen.contains x.born) : (l.filter fun x => !seen.contains x.born).Perm (e :: l.filter fun x => !(seen.push e.born).contains x.born) := by
  induction l with
  | nil => simp at he
  | cons a r ih =>
    rw [List.map_cons, List.nodup_cons] at hn
    have hs := (List.mem_filter.1 he).2
    by_cases ea : a.born = e.born
    · have hae : a = e := by
        have hm := (List.mem_filter.1 he).1
        rcases List.mem_cons.1 hm with h | h
        · exact h.symm
        · exact absurd (List.mem_map.2 ⟨e, h, ea.symm⟩) hn.1
      subst hae
      have h2 : (seen.push a.born).contains a.born = true := by rw [contains_push]; simp
      have : (r.filter fun x => !seen.contains x.born) = r.filter fun x => !(seen.push a.born).contains x.born := by
        refine List.filter_congr (fun x hx => ?_)
        rw [contains_push]
        have : (x.born == a.born) = false := by
          rw [beq_eq_false_iff_ne]
          exact fun e2 => hn.1 (List.mem_map.2 ⟨x, hx, e2⟩)
        rw [this, Bool.or_false]
      simp only [List.filter_cons, hs, h2, if_true, Bool.not_true, Bool.false_eq_true, if_false]
      rw [this]
    · have hm : e ∈ r.filter fun x => !seen.contains x.born := by
        obtain ⟨h1, h2⟩ := List.mem_filter.1 he
        rcases List.mem_cons.1 h1 with h | h
        · exact absurd (by rw [h]) ea
        · exact List.mem_filter.2 ⟨h, h2⟩
      have hq : (seen.push e.born).contains a.born = seen.contains a.born := by
        rw [contains_push]
        have : (a.born == e.born) = false := by rw [beq_eq_false_iff_ne]; exact ea
        rw [this, Bool.or_false]
      have i1 := ih hn.2 hm
      cases hc : seen.contains a.born
      · simp only [List.filter_cons, hq, hc, Bool.not_false, if_true]
        exact (List.Perm.cons _ i1).trans (List.Perm.swap _ _ _)
      · simp only [List.filter_cons, hq, hc, Bool.not_true, Bool.false_eq_true, if_false]
        exact i1
theorem left_push {es : Array MapEntry} {seen : Array Nat} {e : MapEntry} (hn : (es.toList.map (·.born)).Nodup) (he : e ∈ (leftOf es seen).toList) : (leftOf es seen).toList.Perm (e :: (leftOf es (seen.push e.born)).toList) := by
  have e1 : ∀ s : Array Nat, (leftOf es s).toList = es.toList.filter fun x => !s.contains x.born := fun s => by
    unfold leftOf
    rw [← Array.toList_filter]
  rw [e1] at he ⊢
  rw [e1]
  exact flt_push _ _ _ hn he
/-- the step -/
theorem Rg.next (h : Rg T w M r L rest) (ty : TypeId) :
    (rest = [] ∧ (Instr.next (.pointer (some ⟨r, 0, none⟩)) false ty).run Try.prog w = .ok (.tuple #[.bool false]) w) ∨
    ∃ p rest' X, rest.Perm (p :: rest') ∧ p ∈ L ∧ (Instr.next (.pointer (some ⟨r, 0, none⟩)) false ty).run Try.prog w = .ok (.tuple #[.bool true, T.enc p.1, p.2]) X ∧ Rg T X M r L rest' ∧ Kp w X (fun b => b = r) ∧ X.heap.size = w.heap.size ∧ (Instr.entry (.pointer (some ⟨r, 0, none⟩))).run Try.prog X = .ok (.tuple #[T.enc p.1, p.2]) X := by
  have hne := h.ne
  obtain ⟨es, clock, since, seen, c0, hb, hr, hi, hold, hsc, hsk, hpm, hsb⟩ := h
  rcases run_next_at (P := Try.prog) w ty r M since c0 seen es clock hi hb hold hsc with ⟨h0, hrun⟩ | ⟨e, he, w1, hal, hrun⟩
  · left
    refine ⟨?_, hrun⟩
    have := hpm.length_eq
    simp only [List.length_map, Array.length_toList, h0, enL] at this
    exact List.length_eq_zero_iff.1 this.symm
  · right
    have hmem := (mem_left he).1
    have hin : (e.key, e.val) ∈ enL T rest := hpm.mem_iff.1 (List.mem_map.2 ⟨e, he, rfl⟩)
    obtain ⟨p, hp, ep⟩ := List.mem_map.1 hin
    simp only [Prod.mk.injEq] at ep
    obtain ⟨q1, q2⟩ := ep
    obtain ⟨l1, l2, hl⟩ := List.append_of_mem hp
    have hperm : rest.Perm (p :: (l1 ++ l2)) := by rw [hl]; exact List.perm_middle
    have hnd := ((stamped_iff es clock).1 hr.st).2.1
    have hi1 : w1.heap[r]? = some (.mapIter (some M) since seen c0) := by rcases hal with rfl | rfl <;> exact hi
    have hb1 : w1.heap[M]? = some (.map es clock) := by rcases hal with rfl | rfl <;> exact hb
    have k1 : Kp w w1 non := by rcases hal with rfl | rfl; exact Kp.refl _ _; exact (Kp.refl w _).drew
    have hb' : (setBlock w1 r (.mapIter (some M) since (seen.push e.born) clock)).heap[M]? = some (.map es clock) := (setB_kp.block M (blk_lt hb1) (fun e => hne e.symm)).trans hb1
    have hn : ((leftOf es (seen.push e.born)).toList.map fun x => (x.key, x.val)).Perm (enL T (l1 ++ l2)) := by
      have a1 := (left_push hnd he).map (fun x : MapEntry => (x.key, x.val))
      have a2 : (enL T rest).Perm ((e.key, e.val) :: enL T (l1 ++ l2)) := by
        have := hperm.map (fun p : κ × Value => (T.enc p.1, p.2))
        rw [List.map_cons, q1, q2] at this
        exact this
      exact (a1.symm.trans (hpm.trans a2)).cons_inv
    refine ⟨p, l1 ++ l2, _, hperm, hsb p hp, by rw [q1, q2]; exact hrun, ⟨es, clock, since, seen.push e.born, clock, hb', hr, setB_at hi1, hold, hsk, hsk, hn, fun q hq => hsb q (hperm.mem_iff.2 (List.mem_cons_of_mem _ hq))⟩, (k1.mono (T := fun b => b = r) (fun _ f => f.elim)).trans setB_kp (fun k e => Or.inl e), ?_, ?_⟩
    · rcases hal with rfl | rfl <;> simp [setBlock]
    · rw [q1, q2]
      exact run_entry_at _ r M since seen es clock e (setB_at hi1) hb' hmem hnd
noncomputable def neK (K v : Value) : Bool := @decide (K ≠ v) (Classical.propDecidable _)
theorem neK_t {K v : Value} (h : K ≠ v) : neK K v = true := by unfold neK; simpa using h
theorem neK_f {K v : Value} (h : K = v) : neK K v = false := by unfold neK; simpa using h
theorem erase_flt {K : Value} : ∀ (l : List MapEntry) (j : Nat) (e0 : MapEntry), l[j]? = some e0 → e0.key = K → l.Pairwise (fun x y => x.key ≠ y.key) → l.eraseIdx j = l.filter fun x => neK K x.key
  | [], j, e0, h2, _, _ => by simp at h2
  | a :: r, 0, e0, h2, h3, hpw => by
    obtain ⟨w1, w2⟩ := List.pairwise_cons.1 hpw
    simp only [List.getElem?_cons_zero, Option.some.injEq] at h2
    subst h2
    rw [List.eraseIdx_cons_zero, List.filter_cons]
    simp only [neK_f h3.symm, Bool.false_eq_true, if_false]
    exact (List.filter_eq_self.2 (fun x hx => neK_t (by rw [← h3]; exact w1 x hx))).symm
  | a :: r, j + 1, e0, h2, h3, hpw => by
    obtain ⟨w1, w2⟩ := List.pairwise_cons.1 hpw
    rw [List.getElem?_cons_succ] at h2
    have hne : neK K a.key = true := neK_t (fun e => w1 e0 (List.mem_of_getElem? h2) (by rw [← e, h3]))
    rw [List.eraseIdx_cons_succ, List.filter_cons]
    simp only [hne, if_true]
    rw [erase_flt r j e0 h2 h3 w2]
theorem flt_map (l : List MapEntry) (K : Value) (p : MapEntry → Bool) : ((l.filter fun x => neK K x.key).filter p).map (fun x => (x.key, x.val)) = ((l.filter p).map fun x => (x.key, x.val)).filter fun q => neK K q.1 := by
  induction l with
  | nil => rfl
  | cons a r ih =>
    cases h1 : neK K a.key <;> cases h2 : p a <;> simp only [List.filter_cons, List.map_cons, h1, h2, ih, Bool.false_eq_true, if_false, if_true]
theorem enL_flt [DecidableEq κ] (T : KeyT kt κ) (rest : List (κ × Value)) (k : κ) : enL T (dele rest k) = (enL T rest).filter fun q => neK (T.enc k) q.1 := by
  unfold enL dele
  induction rest with
  | nil => rfl
  | cons a r ih =>
    by_cases ex : a.1 = k
    · have h1 : neK (T.enc k) (T.enc a.1) = false := neK_f (by rw [ex])
      rw [ex] at h1
      simp [ex, h1]
      simpa using ih
    · have h1 : neK (T.enc k) (T.enc a.1) = true := neK_t (fun e => ex (T.inj _ _ e).symm)
      simp [ex, h1]
      simpa using ih
/-- 'delete(m, k)' in the round -/
theorem Rg.del [DecidableEq κ] {t e ty : TypeId} (h : Rg T w M r L rest) (ht : Try.prog.underlying t = some (.map kt e)) {k : κ} (hk : T.ok k) :
    ∃ X, (Builtin.delete_ #[t, kt] ty #[.map (some M), T.enc k]).run Try.prog w = .ok (.tuple #[]) X ∧ Rg T X M r (dele L k) (dele rest k) ∧ Kp w X (fun b => b = M) ∧ X.heap.size = w.heap.size := by
  have hne := h.ne
  obtain ⟨es, clock, since, seen, c0, hb, hr, hi, hold, hsc, hsk, hpm, hsb⟩ := h
  obtain ⟨kl, hkey⟩ := T.key k hk
  have oks : ∀ p ∈ dele L k, T.ok p.1 := fun p hp => hr.ks p (List.mem_filter.1 hp).1
  have sub : ∀ p ∈ dele rest k, p ∈ dele L k := fun p hp => List.mem_filter.2 ⟨hsb p (List.mem_filter.1 hp).1, (List.mem_filter.1 hp).2⟩
  have hall : ∀ q : Value × Value, q ∈ enL T (dele L k) → q.1 ≠ T.enc k := fun q hq => enL_dele T L k q hq
  have e1 : ∀ (a : Array MapEntry) (s : Array Nat), (leftOf a s).toList = a.toList.filter fun x => !s.contains x.born := fun a s => by
    unfold leftOf
    rw [← Array.toList_filter]
  rcases T.law.find w hkey es.toList hr.keys with ⟨h1, h2⟩ | ⟨j, e0, h1, h2, h3⟩
  · have hL : ∀ p ∈ L, p.1 ≠ k := fun p hp ep => by
      obtain ⟨x, hx, ex, _⟩ := hr.mem' hp
      exact h2 x hx (by rw [ex, ep])
    have hn : dele L k = L := filter_ne_all hL
    have hn2 : dele rest k = rest := filter_ne_all (fun p hp => hL p (hsb p hp))
    rw [hn, hn2]
    refine ⟨setBlock w M (.map es clock), ?_, ⟨es, clock, since, seen, c0, setB_at hb, hr, (setB_kp.block _ (blk_lt hi) hne).trans hi, hold, hsc, hsk, hpm, hsb⟩, setB_kp, by simp [setBlock]⟩
    simp [Builtin.delete_, run_underlying ht, MapKept.run_getObj_map hb, T.law.check w _ hkey, h1, MapKept.run_setObj_map _ hb, Result.andThen, setBlock]
  · have hjl : j < es.toList.length := (List.getElem?_eq_some_iff.1 h2).1
    have hjs : j < es.size := by simpa using hjl
    have hsub : (es.eraseIdxIfInBounds j).toList = es.toList.eraseIdx j := by
      unfold Array.eraseIdxIfInBounds
      rw [dif_pos hjs]
      simp
    have hx : e0 ∈ es.toList := List.mem_of_getElem? h2
    obtain ⟨p, hp, ep, ev⟩ := hr.mem hx
    have pk : p.1 = k := T.inj _ _ (ep.symm.trans h3)
    have hfil := erase_flt es.toList j e0 h2 h3 ((stamped_iff es clock).1 hr.st).2.2
    have hperm1 : (kvs (es.eraseIdxIfInBounds j)).Perm (enL T (dele L k)) := by
      unfold kvs
      rw [hsub, Go.ChangeMaps.map_eraseIdx]
      have a1 : (es.toList.map fun x => (x.key, x.val)).Perm ((e0.key, e0.val) :: (es.toList.map fun x => (x.key, x.val)).eraseIdx j) := perm_at (by simp [h2])
      have a2 : (enL T L).Perm ((e0.key, e0.val) :: enL T (dele L k)) := by
        have := (perm_split hr.nd hp).map (fun p : κ × Value => (T.enc p.1, p.2))
        rw [List.map_cons, ← ep, ← ev, pk] at this
        exact this
      exact (a1.symm.trans (hr.pm.trans a2)).cons_inv
    refine ⟨setBlock w M (.map (es.eraseIdxIfInBounds j) clock), ?_, ⟨es.eraseIdxIfInBounds j, clock, since, seen, c0, setB_at hb, ⟨stamped_erase hr.st j, Nat.le_trans (MapFrom.size_erase es j) hr.sz, oks, hperm1⟩, (setB_kp.block _ (blk_lt hi) hne).trans hi, fun x hx' => ?_, hsc, hsk, ?_, sub⟩, setB_kp, by simp [setBlock]⟩
    · simp [Builtin.delete_, run_underlying ht, MapKept.run_getObj_map hb, T.law.check w _ hkey, h1, MapKept.run_setObj_map _ hb, Result.andThen, setBlock]
    · rw [hsub] at hx'
      exact hold x ((List.eraseIdx_sublist _ _).subset hx')
    · have a3 : ((leftOf (es.eraseIdxIfInBounds j) seen).toList.map fun x => (x.key, x.val)) = ((leftOf es seen).toList.map fun x => (x.key, x.val)).filter fun q => neK (T.enc k) q.1 := by
        rw [e1, e1, hsub, hfil]
        exact flt_map es.toList (T.enc k) (fun x => !seen.contains x.born)
      have a4 := enL_flt T rest k
      rw [a3, a4]
      exact hpm.filter _
end
end Go.Proofs.Ytbmhllcbkeblfaa.Cn
