import Derived.Test.YtjibhdcnibgegaaRpRec
import Derived.Laws.AppendOwnNone
namespace Go.Proofs.Ytjibhdcnibgegaa
open Go.RowKit
/-- the cells of pairs -/
def pc (ps : List KV) : List Value := ps.flatMap fun p => [.string p.1, .string p.2]
theorem pc_len (ps : List KV) : (pc ps).length = ps.length * 2 := by
  induction ps with
  | nil => rfl
  | cons p r ih => unfold pc at ih ⊢; rw [List.flatMap_cons, List.length_append, ih]; simp; omega
theorem pc_append (a b : List KV) : pc (a ++ b) = pc a ++ pc b := by simp [pc]
theorem pc_at (ps : List KV) : ∀ i (h : i < ps.length), (pc ps)[i * 2]? = some (.string ps[i].1) ∧ (pc ps)[i * 2 + 1]? = some (.string ps[i].2) := by
  induction ps with
  | nil => intro i h; simp at h
  | cons p r ih =>
    intro i h
    cases i with
    | zero => exact ⟨rfl, rfl⟩
    | succ i =>
      have := ih i (by simpa using h)
      have e : pc (p :: r) = .string p.1 :: .string p.2 :: pc r := rfl
      rw [e, show (i + 1) * 2 = i * 2 + 1 + 1 by omega]
      simpa using this
theorem pc_one (ps : List KV) : ∀ u ∈ pc ps, u.oneCell' = true := by
  intro u hu
  obtain ⟨p, _, hp⟩ := List.mem_flatMap.1 hu
  simp at hp
  rcases hp with rfl | rfl <;> rfl
theorem lies_cells {b off : Nat} {w : World} {ps : List KV} (h : LiesP b off w ps) : ∀ j u, (pc ps)[j]? = some u → w.cell? ((⟨b, off, none⟩ : Addr).add j) = some u := by
  intro j u hj
  have hlt := (List.getElem?_eq_some_iff.1 hj).1
  rw [pc_len] at hlt
  have ha : (⟨b, off, none⟩ : Addr).add j = ⟨b, off + j, none⟩ := by simp [Addr.add]
  rw [ha]
  obtain ⟨h0, h1⟩ := h (j / 2) (by omega)
  obtain ⟨p0, p1⟩ := pc_at ps (j / 2) (by omega)
  rcases Nat.mod_two_eq_zero_or_one j with e | e
  · have : j = j / 2 * 2 := by omega
    rw [← this] at h0 p0
    rw [h0, ← p0, hj]
  · have : j = j / 2 * 2 + 1 := by omega
    rw [show off + j / 2 * 2 + 1 = off + j by omega] at h1
    rw [← this] at p1
    rw [h1, ← p1, hj]
theorem row_lies {w : World} {base g cap n : Nat} {ps qs : List KV} {e : TypeId} (h : w.ownsRow base e 2 (.slice (some ⟨g, 0, none⟩) n cap) n (pc (ps ++ qs))) (hn : ps.length ≤ n) : LiesP g 0 w ps := by
  intro i hi
  have h0 := h.cellAt (i * 2) (by omega)
  have h1 := h.cellAt (i * 2 + 1) (by omega)
  obtain ⟨p0, p1⟩ := pc_at (ps ++ qs) i (by simp; omega)
  rw [List.getElem_append_left hi] at p0 p1
  rw [Nat.zero_add, h0, h1, p0, p1]
  exact ⟨rfl, rfl⟩
theorem infoP : (Try.prog.info? 81).map (fun i => (i.zero, i.size, i.bytes)) = some (some (.agg #[.string ⟨#[]⟩, .string ⟨#[]⟩]), 2, 32) := by kernel_rfl
def mark1 : KV := (⟨#[98, 101, 104, 105, 110, 100]⟩, ⟨#[49]⟩)
def mark2 : KV := (⟨#[98, 101, 104, 105, 110, 100]⟩, ⟨#[50]⟩)
set_option maxHeartbeats 1000000 in
set_option maxRecDepth 100000 in
/-- samePairs, of two lists that are the same -/
theorem samePairs_any (a1 a2 : Option Addr) (b1 o1 c1 b2 o2 c2 : Nat) (ps : List KV) (w : World) (h1 : 0 < ps.length → a1 = some ⟨b1, o1, none⟩) (h2 : 0 < ps.length → a2 = some ⟨b2, o2, none⟩) (hb1 : 0 < ps.length → b1 < w.heap.size) (hb2 : 0 < ps.length → b2 < w.heap.size) (l1 : LiesP b1 o1 w ps) (l2 : LiesP b2 o2 w ps) (hlen : ps.length ≤ 1099511627776000) :
    Calls Try.prog 20 #[.slice a1 ps.length c1, .slice a2 ps.length c2] w fun e w' => e = .returned (.bool true) ∧ Below w.heap.size w w' := by
  have L1 := hide l1
  have L2 := hide l2
  clear l1 l2
  go_enter Try.func20, Try.ntmps20
  go_wp2_with fail
  go_loopw [5] (fun i wr => ∃ k : Nat, k ≤ ps.length ∧ i = .int .i64 k ∧ Below w.heap.size w wr) (fun i _ => ps.length - (intOf i).toNat)
  case atStart => exact ⟨0, Nat.zero_le _, rfl, Below.refl _ _⟩
  case round =>
    obtain ⟨k, hk, rfl, hnx⟩ := hrel
    by_cases hlt : k < ps.length
    · obtain rfl := h1 (by omega)
      obtain rfl := h2 (by omega)
      obtain ⟨d1, d2⟩ := L1.out.below (hb1 (by omega)) hnx k hlt
      obtain ⟨d3, d4⟩ := L2.out.below (hb2 (by omega)) hnx k hlt
      have hk1 : (k : Int) < (ps.length : Int) := by omega
      have HNX := hide hnx
      clear hnx
      generalize ps[k].1 = X at *
      generalize ps[k].2 = Y at *
      go_wp2_with fail
      go_quiet (fail)
      go_wp2
      go_roundw
      case rel => exact ⟨k + 1, by omega, by go_num, below_drewN HNX.out _⟩
      case measure => simp [intOf]; omega
    · have HNX := hide hnx
      clear hnx
      go_wp2
      go_ret
      exact ⟨rfl, HNX.out⟩
theorem pc_marks : pc [mark1, mark2] = (#[.string ⟨#[98, 101, 104, 105, 110, 100]⟩, .string ⟨#[49]⟩, .string ⟨#[98, 101, 104, 105, 110, 100]⟩, .string ⟨#[50]⟩] : Array Value).toList := rfl
theorem cell_marks (w : World) : ∀ j u, (pc [mark1, mark2])[j]? = some u → (w.alloc (.cells #[.string ⟨#[98, 101, 104, 105, 110, 100]⟩, .string ⟨#[49]⟩, .string ⟨#[98, 101, 104, 105, 110, 100]⟩, .string ⟨#[50]⟩] 81)).cell? ((⟨w.heap.size, 0, none⟩ : Addr).add j) = some u := by
  rw [pc_marks]
  exact (World.ownsRow_lit (base := 0) (e := 81) (size := 2) w _ 2 (by omega) (by unfold maxLen; omega) rfl).cells (g := w.heap.size) rfl
def mk2 : List Value := pc [mark1, mark2]
theorem mk2_len : mk2.length = 2 * 2 := rfl
theorem mk2_one : ∀ u ∈ mk2, u.oneCell' = true := pc_one _
theorem mk2_cells (w : World) : ∀ j u, mk2[j]? = some u → (w.alloc (.cells #[.string ⟨#[98, 101, 104, 105, 110, 100]⟩, .string ⟨#[49]⟩, .string ⟨#[98, 101, 104, 105, 110, 100]⟩, .string ⟨#[50]⟩] 81)).cell? ((⟨w.heap.size, 0, none⟩ : Addr).add j) = some u := cell_marks w
theorem room_facts (n : Nat) (hlen : (n + 2) * 32 ≤ 140737488355328) : 0 + n + 2 ≤ maxLen ∧ (0 + n + 2) * 32 ≤ 140737488355328 ∧ 0 + n ≤ maxLen ∧ (0 + n) * 32 ≤ 140737488355328 := by
  unfold maxLen; omega
theorem le_alloc {B : Nat} {w : World} {o : Obj} (h : B ≤ w.heap.size) : B ≤ (w.alloc o).heap.size := by simp; omega
/-- a slice of pairs as it comes in -/
def PairsAt (w : World) (v : Value) (a : Addr) (b off cap : Nat) (ps : List KV) : Prop := (v = .slice none 0 0 ∧ ps = []) ∨ (v = .slice (some a) ps.length cap ∧ (0 < ps.length → a = ⟨b, off, none⟩ ∧ b < w.heap.size) ∧ LiesP b off w ps)
set_option maxHeartbeats 1000000 in
set_option maxRecDepth 100000 in
/-- roomy -/
theorem roomy_any (v : Value) (a : Addr) (b off cap : Nat) (ps : List KV) (w : World) (hv : PairsAt w v a b off cap ps) (hlen : (ps.length + 2) * 32 ≤ 140737488355328) :
    Calls Try.prog 21 #[v] w fun e w' => ∃ g c, e = .returned (.slice (some ⟨g, 0, none⟩) (ps.length + 2) c) ∧ w'.ownsRow w.heap.size 81 2 (.slice (some ⟨g, 0, none⟩) (ps.length + 2) c) (ps.length + 2) (pc (ps ++ [mark1, mark2])) ∧ Below w.heap.size w w' := by
  obtain ⟨hm1, hm2, hm3, hm4⟩ := room_facts ps.length hlen
  obtain ⟨i0, hi, hz0, hz1, hz2⟩ := info_parts infoP
  have fin : Hid (∀ v2 w2, w2.ownsRow w.heap.size 81 2 v2 (0 + ps.length + 2) ([] ++ pc ps ++ mk2) → Below w.heap.size w w2 → ∃ g c, Ending.returned v2 = .returned (.slice (some ⟨g, 0, none⟩) (ps.length + 2) c) ∧ w2.ownsRow w.heap.size 81 2 (.slice (some ⟨g, 0, none⟩) (ps.length + 2) c) (ps.length + 2) (pc (ps ++ [mark1, mark2])) ∧ Below w.heap.size w w2) := by
    intro v2 w2 o2 hb
    rw [List.nil_append, mk2, ← pc_append, Nat.zero_add] at o2
    rcases o2.2 with ⟨_, h0⟩ | ⟨g, c, cur, rfl, _⟩
    · omega
    · exact ⟨g, c, rfl, o2, hb⟩
  rcases hv with ⟨rfl, rfl⟩ | ⟨rfl, hb, hl⟩
  · go_enter Try.func21, Try.ntmps21
    go_wp2_with (first
      | (at_builtin; refine wpList_append_own_none rfl _ _ 40 rfl w.heap.size 81 i0 2 Try.underlying40 hi _ 0 [] rfl (World.ownsRow_nil _ _ _ _) rfl ?_)
      | (at_builtin; refine wpList_append_own _ rfl _ _ 40 rfl w.heap.size 81 i0 (.agg #[.string ⟨#[]⟩, .string ⟨#[]⟩]) 2 32 Try.underlying40 hi hz0 hz1 hz2 rfl (by decide) _ 0 [] rfl (World.ownsRow_nil _ _ _ _) ⟨w.heap.size, 0, none⟩ 2 2 mk2 rfl mk2_len (mk2_cells w) mk2_one (by unfold maxLen; omega) (by omega) (by simp) ?_; intro v2 w2 o2 g2 n2))
    have hbb := ((Below.refl w.heap.size w).alloc (Nat.le_refl _) _).grown g2 (by simp) (by intro k hk; cases hk)
    go_wp2
    go_ret
    exact fin.out v2 w2 o2 hbb
  · have HL := hide hl
    have C : Hid (∀ j u, (pc ps)[j]? = some u → w.cell? (a.add j) = some u) := fun j u hj => by
      have hlt := (List.getElem?_eq_some_iff.1 hj).1
      rw [pc_len] at hlt
      rw [(hb (by omega)).1]
      exact lies_cells hl j u hj
    clear hl
    go_enter Try.func21, Try.ntmps21
    go_wp2_with (first
      | (at_builtin; have O2 := O1.out.alloc (.cells #[.string ⟨#[98, 101, 104, 105, 110, 100]⟩, .string ⟨#[49]⟩, .string ⟨#[98, 101, 104, 105, 110, 100]⟩, .string ⟨#[50]⟩] 81); refine wpList_append_own (w1.alloc (.cells #[.string ⟨#[98, 101, 104, 105, 110, 100]⟩, .string ⟨#[49]⟩, .string ⟨#[98, 101, 104, 105, 110, 100]⟩, .string ⟨#[50]⟩] 81)) rfl (.tmp 6) (.tmp 9) 40 rfl w.heap.size 81 i0 (.agg #[.string ⟨#[]⟩, .string ⟨#[]⟩]) 2 32 Try.underlying40 hi hz0 hz1 hz2 rfl (by decide) v1 (0 + ps.length) ([] ++ pc ps) rfl O2 ⟨w1.heap.size, 0, none⟩ 2 2 mk2 rfl mk2_len (mk2_cells w1) mk2_one hm1 hm2 (le_alloc s1) ?_; intro v2 w2 o2 g2 n2)
      | (at_builtin; refine wpList_append_own _ rfl _ _ 40 rfl w.heap.size 81 i0 (.agg #[.string ⟨#[]⟩, .string ⟨#[]⟩]) 2 32 Try.underlying40 hi hz0 hz1 hz2 rfl (by decide) _ 0 [] rfl (World.ownsRow_nil _ _ _ _) a ps.length cap (pc ps) rfl (pc_len _) C.out (pc_one _) hm3 hm4 (Nat.le_refl _) ?_; intro v1 w1 o1 g1 n1; have s1 := g1.size; have O1 := hide o1; have G1 := hide g1; clear o1 g1 n1))
    have hb1 := (Below.refl w.heap.size w).grown G1.out (Nat.le_refl _) (by intro k hk; cases hk)
    clear n2
    have hb2 := (hb1.alloc s1 _).grown g2 (le_alloc s1) (fun j hj => (O1.out.lt j hj).1)
    go_wp2
    go_ret
    exact fin.out v2 w2 o2 hb2
end Go.Proofs.Ytjibhdcnibgegaa
