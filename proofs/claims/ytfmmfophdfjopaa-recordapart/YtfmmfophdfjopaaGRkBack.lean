import Derived.Test.YtfmmfophdfjopaaGRkLies
namespace Go.Proofs.Ytfmmfophdfjopaa
open Go.RowKit
theorem ba_ext {a b : ByteArray} (h : a.data.toList = b.data.toList) : a = b := ByteArray.ext (Array.toList_inj.1 h)
theorem pair_there {d : ByteArray} {q : Nat} {p : KV} {rest : List UInt8} (h : d.data.toList.drop q = pairL p ++ rest) (h1 : p.1.size < 65536) (h2 : p.2.size < 4294967296) (hq : q ≤ d.size) : pairOk d q ∧ pairOf d q = p ∧ pairEnd d q = q + (6 + p.1.size + p.2.size) := by
  have hz := size_data d
  have hl := congrArg List.length h
  rw [List.length_drop, List.length_append, pairL_len] at hl
  unfold pairL at h
  have s1 := size_data p.1
  have s2 := size_data p.2
  have ek : kAt d q = p.1.size := by
    unfold kAt
    rw [h, List.append_assoc, List.append_assoc, List.append_assoc, List.take_left' (dig_len _ _), val_dig _ _ (by omega)]
  have d2 : d.data.toList.drop (q + 2) = dig 4 p.2.size ++ (p.1.data.toList ++ (p.2.data.toList ++ rest)) := by
    rw [← List.drop_drop, h, List.append_assoc, List.append_assoc, List.append_assoc, List.drop_left' (dig_len _ _)]
  have ev : vAt d q = p.2.size := by
    unfold vAt
    rw [d2, List.take_left' (dig_len _ _), val_dig _ _ (by omega)]
  have d6 : d.data.toList.drop (q + 6) = p.1.data.toList ++ (p.2.data.toList ++ rest) := by
    rw [show q + 6 = q + 2 + 4 by omega, ← List.drop_drop, d2, List.drop_left' (dig_len _ _)]
  have d7 : d.data.toList.drop (q + 6 + p.1.size) = p.2.data.toList ++ rest := by
    rw [← List.drop_drop, d6, List.drop_left' s1]
  have ee : pairEnd d q = q + (6 + p.1.size + p.2.size) := by unfold pairEnd; rw [ek, ev]; omega
  refine ⟨⟨by omega, by rw [ee]; omega⟩, ?_, ee⟩
  unfold pairOf
  rw [ek, ev]
  refine Prod.ext (ba_ext ?_) (ba_ext ?_)
  · simp only
    rw [slice_str, d6, show q + 6 + p.1.size - (q + 6) = p.1.size by omega, List.take_left' s1]
  · simp only
    rw [slice_str, d7, show q + 6 + p.1.size + p.2.size - (q + 6 + p.1.size) = p.2.size by omega, List.take_left' s2]
theorem bodyL_split (ps : List KV) (n : Nat) (h : n < ps.length) : bodyL ps = bodyL (ps.take n) ++ (pairL ps[n] ++ bodyL (ps.drop (n + 1))) := by
  have : ps = ps.take n ++ ps[n] :: ps.drop (n + 1) := by rw [← List.drop_eq_getElem_cons h, List.take_append_drop]
  refine (congrArg bodyL this).trans ?_
  unfold bodyL
  rw [List.flatMap_append, List.flatMap_cons]
theorem pairs_there {d : ByteArray} {p : Nat} {ps : List KV} {rest : List UInt8} (h : d.data.toList.drop p = bodyL ps ++ rest) (_ : p ≤ d.size) (hs : ∀ i (hi : i < ps.length), ps[i].1.size < 65536 ∧ ps[i].2.size < 4294967296) : ∀ n, n ≤ ps.length → pairsAt d p n = some (ps.take n, p + sizeL (ps.take n)) := by
  have hz := size_data d
  intro n
  induction n with
  | zero => intro _; simp [pairsAt, sizeL]
  | succ n ih =>
    intro hn
    have hn' : n < ps.length := by omega
    have hq : d.data.toList.drop (p + sizeL (ps.take n)) = pairL ps[n] ++ (bodyL (ps.drop (n + 1)) ++ rest) := by
      rw [← List.drop_drop, h, bodyL_split ps n hn', List.append_assoc, List.drop_left' (bodyL_len _), List.append_assoc]
    have hl := congrArg List.length hq
    rw [List.length_drop, List.length_append, pairL_len] at hl
    obtain ⟨o1, o2, o3⟩ := pair_there hq (hs n hn').1 (hs n hn').2 (by omega)
    rw [pairs_step (ih (by omega)) o1, o2, o3, List.take_succ_eq_append_getElem hn', sizeL_append]
    simp [sizeL]
    omega
theorem spell_there {d : ByteArray} {p : Nat} {ps : List KV} {rest : List UInt8} (h : d.data.toList.drop p = recL ps ++ rest) (hp : p ≤ d.size) (hn : ps.length < 65536) (hs : ∀ i (hi : i < ps.length), ps[i].1.size < 65536 ∧ ps[i].2.size < 4294967296) : spellAt d p = some (ps, p + (recL ps).length) := by
  have hz := size_data d
  have hl := congrArg List.length h
  rw [List.length_drop, List.length_append, recL_len] at hl
  unfold recL at h
  have ek : kAt d p = ps.length := by
    unfold kAt
    rw [h, List.append_assoc, List.take_left' (dig_len _ _), val_dig _ _ (by omega)]
  have d2 : d.data.toList.drop (p + 2) = bodyL ps ++ rest := by
    rw [← List.drop_drop, h, List.append_assoc, List.drop_left' (dig_len _ _)]
  unfold spellAt
  rw [if_pos (by omega), ek, pairs_there d2 (by omega) hs _ (Nat.le_refl _), List.take_length, recL_len]
  simp
  omega
theorem encN_pre (gs : List GR) : ∀ n j, j ≤ n → ∃ r, encN gs n = encN gs j ++ r := by
  intro n
  induction n with
  | zero => intro j hj; obtain rfl : j = 0 := by omega
            exact ⟨[], by simp⟩
  | succ n ih =>
    intro j hj
    rcases Nat.lt_or_ge n j with h | h
    · obtain rfl : j = n + 1 := by omega
      exact ⟨[], by simp⟩
    · obtain ⟨r, hr⟩ := ih j h
      exact ⟨r ++ (gs.getD n default).1.data.toList ++ dig 4 (encD (gs.take n)).length, by rw [encN, hr]; simp only [List.append_assoc]⟩
theorem encN_len {k : Nat} {gs : List GR} (hz : ∀ i (hi : i < gs.length), gs[i].1.size = k) : ∀ j, j ≤ gs.length → (encN gs j).length = j * (k + 4) := by
  intro j
  induction j with
  | zero => intro _; simp [encN]
  | succ j ih =>
    intro hj
    rw [encN_step gs j (by omega), List.length_append, List.length_append, dig_len, size_data, ih (by omega), hz j (by omega), Nat.add_mul]
    omega
/-- what Decode finds in what Encode wrote -/
theorem back {k : Int} {gs : List GR} (h : egE k gs = 0) : dcE k (egI k gs) (egD k gs) = 0 ∧ dcG k (egI k gs) (egD k gs) = gs := by
  obtain ⟨hk, hin, hD⟩ := eg_inv h
  obtain ⟨kn, rfl⟩ : ∃ kn : Nat, k = (kn : Int) := ⟨k.toNat, by omega⟩
  have eI : egI (kn : Int) gs = strOf (encN gs gs.length) := by unfold egI; rw [if_pos h]
  have eD : egD (kn : Int) gs = strOf (encD gs) := by unfold egD; rw [if_pos h]
  rw [eI, eD]
  have hz : ∀ i (hi : i < gs.length), gs[i].1.size = kn := fun i hi => by have := (hin i hi).1; omega
  have hxl : (strOf (encN gs gs.length)).size = gs.length * (kn + 4) := by rw [strOf_size, encN_len hz _ (Nat.le_refl _)]
  have hxd : (strOf (encN gs gs.length)).size / (kn + 4) = gs.length := by rw [hxl]; exact Nat.mul_div_cancel _ (by omega)
  have hxm : (strOf (encN gs gs.length)).size % (kn + 4) = 0 := by rw [hxl]; exact Nat.mul_mod_left _ _
  have hdz : (strOf (encD gs)).size = (encD gs).length := strOf_size _
  have hx : ∀ i (hi : i < gs.length), ∃ r, (strOf (encN gs gs.length)).data.toList.drop (i * (kn + 4)) = gs[i].1.data.toList ++ (dig 4 (encD (gs.take i)).length ++ r) := fun i hi => by
    obtain ⟨r, hr⟩ := encN_pre gs gs.length (i + 1) (by omega)
    refine ⟨r, ?_⟩
    show (encN gs gs.length).drop (i * (kn + 4)) = _
    rw [hr, encN_step gs i hi, List.append_assoc, List.append_assoc, List.drop_left' (encN_len hz i (by omega))]
  have hH : ∀ i (hi : i < gs.length), rdeH kn (strOf (encN gs gs.length)) i = gs[i].1 := fun i hi => by
    obtain ⟨r, hr⟩ := hx i hi
    refine ba_ext ?_
    unfold rdeH
    rw [slice_str, hr, show i * (kn + 4) + kn - i * (kn + 4) = kn by omega, List.take_left' (by rw [size_data, hz i hi])]
  have hO : ∀ i (hi : i < gs.length), rdeO kn (strOf (encN gs gs.length)) i = (encD (gs.take i)).length := fun i hi => by
    obtain ⟨r, hr⟩ := hx i hi
    have hle := encD_le gs i
    unfold rdeO
    rw [← List.drop_drop, hr, List.drop_left' (by rw [size_data, hz i hi]), List.take_left' (dig_len _ _), val_dig _ _ (by omega)]
  have hup : allUp kn (strOf (encN gs gs.length)) = true := by
    refine allUp_yes (fun i hi => ?_)
    rw [hxd] at hi
    unfold upB
    by_cases h0 : i = 0
    · simp [h0]
    · rw [hH i hi, hH (i - 1) (by omega)]
      have hn := (hin i hi).2.2
      rw [gr_at (by omega : i - 1 < gs.length)] at hn
      have hn2 : ¬ (gs[i].1 = gs[i - 1].1 ∨ lessS gs[i].1 gs[i - 1].1 = true) := fun q => hn ⟨h0, q⟩
      have a : decide (gs[i].1 = gs[i - 1].1) = false := decide_eq_false (fun q => hn2 (.inl q))
      have b : lessS gs[i].1 gs[i - 1].1 = false := by
        cases hc : lessS gs[i].1 gs[i - 1].1 with
        | false => rfl
        | true => exact absurd (.inr hc) hn2
      rw [a, b]; simp
  have hri := (ri_yes (m := (kn : Int)) (x := strOf (encN gs gs.length)) hk ⟨by rw [Int.toNat_natCast]; exact hxm, by rw [Int.toNat_natCast]; exact hup⟩).1
  have hdec : ∀ j, j ≤ gs.length → decAt kn (strOf (encN gs gs.length)) (strOf (encD gs)) j = some (gs.take j, (encD (gs.take j)).length) := by
    intro j
    induction j with
    | zero => intro _; simp [decAt, encD]
    | succ j ih =>
      intro hj
      have hj' : j < gs.length := by omega
      have herr := (hin j hj').2.1
      obtain ⟨fl, fp, fz, fs⟩ := fine herr
      have hle := encD_le gs j
      have hsp : spellAt (strOf (encD gs)) (encD (gs.take j)).length = some (gs[j].2, (encD (gs.take j)).length + (recL gs[j].2).length) := by
        refine spell_there (rest := encD (gs.drop (j + 1))) ?_ (by omega) (by omega) (fun i hi => ⟨by have := (fs i hi).1; omega, by have := (fs i hi).2; omega⟩)
        show (encD gs).drop _ = _
        have : gs = gs.take j ++ gs[j] :: gs.drop (j + 1) := by rw [← List.drop_eq_getElem_cons hj', List.take_append_drop]
        have e : encD gs = encD (gs.take j) ++ (recL gs[j].2 ++ encD (gs.drop (j + 1))) := by
          refine (congrArg encD this).trans ?_
          unfold encD
          rw [List.flatMap_append, List.flatMap_cons]
        rw [e, List.drop_left' rfl]
      have hs1 := (spL_some hsp).1
      have hs2 := (spL_some hsp).2
      rw [dec_step (ih (by omega)) (by rw [hs1]; exact herr) (hO j hj'), hs1, hs2, hH j hj', List.take_succ_eq_append_getElem hj', encD_snoc, List.length_append]
  have hok : dcOk (kn : Int) (strOf (encN gs gs.length)) (strOf (encD gs)) = some gs := by
    refine ok_yes ?_ (by omega)
    rw [Int.toNat_natCast, hxd, hdec _ (Nat.le_refl _), List.take_length, hdz]
  exact dc_yes hri hok
end Go.Proofs.Ytfmmfophdfjopaa
namespace Go.Proofs.Ytfmmfophdfjopaa
open Go.RowKit
def btw (m : Int) : Int := if 1 ≤ m ∧ m ≤ 16 then m else 16
theorem btw_in (m : Int) : 1 ≤ btw m ∧ btw m ≤ 16 := by
  unfold btw
  by_cases h : 1 ≤ m ∧ m ≤ 16
  · rw [if_pos h]; exact h
  · rw [if_neg h]; omega
set_option maxRecDepth 100000 in
theorem between_any (m : Int) (w : World) : Calls Try.prog 4 #[.int .i64 m] w fun e w' => e = .returned (.int .i64 (btw m)) ∧ w = w' := by
  unfold btw
  by_cases h : 1 ≤ m ∧ m ≤ 16
  · rw [if_pos h]
    go_enter Try.func4, Try.ntmps4
    go_wp2
    go_ret
    exact ⟨rfl, rfl⟩
  · rw [if_neg h]
    by_cases h1 : m < 1
    · clear h
      go_enter Try.func4, Try.ntmps4
      go_wp2
      go_ret
      exact ⟨rfl, rfl⟩
    · have h2 : 16 < m := by omega
      have h3 : ¬ m < 1 := h1
      clear h
      go_enter Try.func4, Try.ntmps4
      go_wp2
      go_ret
      exact ⟨rfl, rfl⟩
def kyd (k : ByteArray) : ByteArray := if k.size = 0 then ⟨#[107]⟩ else if 255 < k.size then k.extract 0 255 else k
def vld (v : ByteArray) : ByteArray := if 4096 < v.size then v.extract 0 4096 else v
theorem kyd_size (k : ByteArray) : 1 ≤ (kyd k).size ∧ (kyd k).size ≤ 255 := by
  unfold kyd
  by_cases h : k.size = 0
  · rw [if_pos h]; decide
  · rw [if_neg h]
    by_cases h2 : 255 < k.size
    · rw [if_pos h2]; simp; omega
    · rw [if_neg h2]; omega
theorem vld_size (v : ByteArray) : (vld v).size ≤ 4096 := by
  unfold vld
  by_cases h2 : 4096 < v.size
  · rw [if_pos h2]; simp; omega
  · rw [if_neg h2]; omega
set_option maxRecDepth 100000 in
theorem keyed_any (k : ByteArray) (w : World) : Calls Try.prog 18 #[.string k] w fun e w' => e = .returned (.string (kyd k)) ∧ w = w' := by
  unfold kyd
  by_cases h : k.size = 0
  · rw [if_pos h]
    have hem : k.toList.isEmpty = true := by rw [emptyS]; exact decide_eq_true h
    clear h
    go_enter Try.func18, Try.ntmps18
    go_wp2
    go_ret
    exact ⟨rfl, rfl⟩
  · rw [if_neg h]
    have hem : k.toList.isEmpty = false := by rw [emptyS]; exact decide_eq_false h
    by_cases h2 : 255 < k.size
    · rw [if_pos h2]
      have h3 : (255 : Int) < (k.size : Int) := by omega
      have h4 : (255 : Int) ≤ (k.size : Int) := by omega
      go_enter Try.func18, Try.ntmps18
      go_wp2
      go_ret
      exact ⟨rfl, rfl⟩
    · rw [if_neg h2]
      have h3 : ¬ (255 : Int) < (k.size : Int) := by omega
      go_enter Try.func18, Try.ntmps18
      go_wp2
      go_ret
      exact ⟨rfl, rfl⟩
set_option maxRecDepth 100000 in
theorem valued_any (k : ByteArray) (w : World) : Calls Try.prog 19 #[.string k] w fun e w' => e = .returned (.string (vld k)) ∧ w = w' := by
  unfold vld
  by_cases h2 : 4096 < k.size
  · rw [if_pos h2]
    have h3 : (4096 : Int) < (k.size : Int) := by omega
    have h4 : (4096 : Int) ≤ (k.size : Int) := by omega
    go_enter Try.func19, Try.ntmps19
    go_wp2
    go_ret
    exact ⟨rfl, rfl⟩
  · rw [if_neg h2]
    have h3 : ¬ (4096 : Int) < (k.size : Int) := by omega
    go_enter Try.func19, Try.ntmps19
    go_wp2
    go_ret
    exact ⟨rfl, rfl⟩
def padd (h : ByteArray) (j : Nat) : ByteArray := strOf (h.data.toList ++ List.replicate j 0)
theorem padd_size (h : ByteArray) (j : Nat) : (padd h j).size = h.size + j := by
  unfold padd; rw [strOf_size, List.length_append, List.length_replicate, size_data]
theorem padd_step (h : ByteArray) (j : Nat) : padd h j ++ (⟨#[0]⟩ : ByteArray) = padd h (j + 1) := by
  refine ba_ext ?_
  unfold padd
  rw [ByteArray.data_append, Array.toList_append, strOf_data, strOf_data, List.replicate_succ', ← List.append_assoc]
def fitB (h : ByteArray) (k : Nat) : ByteArray := (padd h (k - h.size)).extract 0 k
theorem fitB_size (h : ByteArray) (k : Nat) : (fitB h k).size = k := by
  unfold fitB; simp [padd_size]; omega
set_option maxHeartbeats 1000000 in
set_option maxRecDepth 100000 in
theorem fit_any (h : ByteArray) (k : Nat) (hk : k ≤ 16) (w : World) : Calls Try.prog 17 #[.string h, .int .i64 (k : Int)] w fun e w' => e = .returned (.string (fitB h k)) ∧ w = w' := by
  have E0 : Hid (padd h 0 = h) := by
    have e : padd h 0 = h := by unfold padd; simp [strOf_toList]
    exact e
  go_enter Try.func17, Try.ntmps17
  go_wp2_with fail
  go_loopw [5] (fun s wr => ∃ j : Nat, j ≤ k - h.size ∧ s = .string (padd h j) ∧ w = wr) (fun s _ => match s with | .string t => 16 + h.size - t.size | _ => 0)
  case atStart => exact ⟨0, by omega, by rw [E0.out], rfl⟩
  case round =>
    obtain ⟨j, hj, rfl, rfl⟩ := hrel
    have hz := padd_size h j
    have hs := padd_step h j
    have hz2 := padd_size h (j + 1)
    by_cases hlt : h.size + j < k
    · have hi : ((padd h j).size : Int) < (k : Int) := by omega
      go_wp2_with fail
      refine ⟨⟨j + 1, by omega, rfl, trivial⟩, ?_⟩
      simp only [hz, hz2]
      omega
    · have hi : ¬ ((padd h j).size : Int) < (k : Int) := by omega
      have hi2 : (k : Int) ≤ ((padd h j).size : Int) := by omega
      have HF : Hid ((padd h j).extract 0 k = fitB h k) := by
        have e : (padd h j).extract 0 k = fitB h k := by
          unfold fitB
          rw [show j = k - h.size by omega]
        exact e
      go_wp2_with fail
      go_ret
      exact ⟨by rw [← HF.out]; rfl, rfl⟩
end Go.Proofs.Ytfmmfophdfjopaa
namespace Go.Proofs.Ytfmmfophdfjopaa
open Go.RowKit
/-- a pair put into its place -/
def putP : List KV → KV → List KV
  | [], p => [p]
  | q :: r, p => if lessS p.1 q.1 then p :: q :: r else if p.1 = q.1 then p :: r else q :: putP r p
def putG : List GR → ByteArray → KV → List GR
  | [], h, p => [(h, [p])]
  | g :: r, h, p => if lessS h g.1 then (h, [p]) :: g :: r else if h = g.1 then (h, putP g.2 p) :: r else g :: putG r h p
abbrev UpP (l : List KV) : Prop := l.Pairwise (fun a b => lessS a.1 b.1 = true)
abbrev UpG (l : List GR) : Prop := l.Pairwise (fun a b => lessS a.1 b.1 = true)
theorem lessS_no {a b : ByteArray} (h1 : lessS a b = false) (h2 : a ≠ b) : lessS b a = true := by
  rcases lessS_total a b with h | h | h
  · exact absurd h h2
  · rw [h] at h1; cases h1
  · exact h
theorem putP_mem {l : List KV} {p q : KV} (h : q ∈ putP l p) : q = p ∨ q ∈ l := by
  induction l with
  | nil => simp [putP] at h; exact .inl h
  | cons a r ih =>
    unfold putP at h
    split at h
    · rcases List.mem_cons.1 h with h | h
      · exact .inl h
      · exact .inr h
    · split at h
      · rcases List.mem_cons.1 h with h | h
        · exact .inl h
        · exact .inr (List.mem_cons_of_mem _ h)
      · rcases List.mem_cons.1 h with h | h
        · exact .inr (by rw [h]; exact List.mem_cons_self)
        · rcases ih h with h | h
          · exact .inl h
          · exact .inr (List.mem_cons_of_mem _ h)
theorem putP_up {l : List KV} (hl : UpP l) (p : KV) : UpP (putP l p) := by
  induction l with
  | nil => simp [putP, UpP]
  | cons a r ih =>
    obtain ⟨h1, h2⟩ := List.pairwise_cons.1 hl
    unfold putP
    split
    · rename_i hlt
      refine List.pairwise_cons.2 ⟨fun x hx => ?_, hl⟩
      rcases List.mem_cons.1 hx with hx | hx
      · rw [hx]; exact hlt
      · exact lessS_trans hlt (h1 x hx)
    · split
      · rename_i he
        exact List.pairwise_cons.2 ⟨fun x hx => by rw [he]; exact h1 x hx, h2⟩
      · rename_i hnl hne
        simp only [Bool.not_eq_true] at hnl
        refine List.pairwise_cons.2 ⟨fun x hx => ?_, ih h2⟩
        rcases putP_mem hx with hx | hx
        · rw [hx]; exact lessS_no hnl hne
        · exact h1 x hx
theorem putP_ne (l : List KV) (p : KV) : putP l p ≠ [] := by
  cases l with
  | nil => simp [putP]
  | cons a r =>
    unfold putP
    split
    · simp
    · split
      · simp
      · simp
theorem putP_len (l : List KV) (p : KV) : (putP l p).length ≤ l.length + 1 := by
  induction l with
  | nil => simp [putP]
  | cons a r ih =>
    unfold putP
    split
    · simp
    · split
      · simp
      · simp only [List.length_cons]; omega
theorem putG_mem {l : List GR} {h : ByteArray} {p : KV} {q : GR} (hq : q ∈ putG l h p) : (q.1 = h ∧ (q.2 = [p] ∨ ∃ g ∈ l, g.1 = h ∧ q.2 = putP g.2 p)) ∨ q ∈ l := by
  induction l with
  | nil => simp [putG] at hq; rw [hq]; exact .inl ⟨rfl, .inl rfl⟩
  | cons a r ih =>
    unfold putG at hq
    split at hq
    · rcases List.mem_cons.1 hq with hq | hq
      · rw [hq]; exact .inl ⟨rfl, .inl rfl⟩
      · exact .inr hq
    · split at hq
      · rename_i he
        rcases List.mem_cons.1 hq with hq | hq
        · rw [hq]; exact .inl ⟨rfl, .inr ⟨a, List.mem_cons_self, he.symm, rfl⟩⟩
        · exact .inr (List.mem_cons_of_mem _ hq)
      · rcases List.mem_cons.1 hq with hq | hq
        · exact .inr (by rw [hq]; exact List.mem_cons_self)
        · rcases ih hq with ⟨h1, h2⟩ | h2
          · refine .inl ⟨h1, ?_⟩
            rcases h2 with h2 | ⟨g, hg, h3⟩
            · exact .inl h2
            · exact .inr ⟨g, List.mem_cons_of_mem _ hg, h3⟩
          · exact .inr (List.mem_cons_of_mem _ h2)
theorem putG_up {l : List GR} (hl : UpG l) (h : ByteArray) (p : KV) : UpG (putG l h p) := by
  induction l with
  | nil => simp [putG, UpG]
  | cons a r ih =>
    obtain ⟨h1, h2⟩ := List.pairwise_cons.1 hl
    unfold putG
    split
    · rename_i hlt
      refine List.pairwise_cons.2 ⟨fun x hx => ?_, hl⟩
      rcases List.mem_cons.1 hx with hx | hx
      · rw [hx]; exact hlt
      · exact lessS_trans hlt (h1 x hx)
    · split
      · rename_i he
        exact List.pairwise_cons.2 ⟨fun x hx => by show lessS h x.1 = true; rw [he]; exact h1 x hx, h2⟩
      · rename_i hnl hne
        simp only [Bool.not_eq_true] at hnl
        refine List.pairwise_cons.2 ⟨fun x hx => ?_, ih h2⟩
        rcases putG_mem hx with ⟨hx, _⟩ | hx
        · rw [hx]; exact lessS_no hnl hne
        · exact h1 x hx
/-- pairs that may be, but for how many there are -/
def OkP (l : List KV) : Prop := l ≠ [] ∧ UpP l ∧ ∀ p ∈ l, 1 ≤ p.1.size ∧ p.1.size ≤ 255 ∧ p.2.size ≤ 4096
def OkG (k : Nat) (l : List GR) : Prop := UpG l ∧ ∀ g ∈ l, g.1.size = k ∧ OkP g.2
theorem OkP.one {p : KV} (hp : 1 ≤ p.1.size ∧ p.1.size ≤ 255 ∧ p.2.size ≤ 4096) : OkP [p] := ⟨by simp, by simp [UpP], fun q hq => by rw [List.mem_singleton] at hq; rw [hq]; exact hp⟩
theorem OkP.put {l : List KV} (h : OkP l) {p : KV} (hp : 1 ≤ p.1.size ∧ p.1.size ≤ 255 ∧ p.2.size ≤ 4096) : OkP (putP l p) := by
  refine ⟨putP_ne _ _, putP_up h.2.1 p, fun q hq => ?_⟩
  rcases putP_mem hq with e | e
  · rw [e]; exact hp
  · exact h.2.2 q e
theorem OkG.put {k : Nat} {l : List GR} (hl : OkG k l) {h : ByteArray} {p : KV} (hh : h.size = k) (hp : 1 ≤ p.1.size ∧ p.1.size ≤ 255 ∧ p.2.size ≤ 4096) : OkG k (putG l h p) := by
  refine ⟨putG_up hl.1 h p, fun g hg => ?_⟩
  rcases putG_mem hg with ⟨e, e2⟩ | e
  · refine ⟨by rw [e]; exact hh, ?_⟩
    rcases e2 with e2 | ⟨g', hg', _, e2⟩
    · rw [e2]; exact OkP.one hp
    · rw [e2]; exact (hl.2 g' hg').2.put hp
  · exact hl.2 g e
def fullL : List GR → Nat
  | [] => 0
  | g :: r => max g.2.length (fullL r)
theorem fullL_mem {l : List GR} {g : GR} (h : g ∈ l) : g.2.length ≤ fullL l := by
  induction l with
  | nil => cases h
  | cons a r ih =>
    unfold fullL
    rcases List.mem_cons.1 h with h | h
    · rw [h]; omega
    · have := ih h; omega
theorem up_at {l : List KV} (h : UpP l) {i : Nat} (hi : i + 1 < l.length) : lessS l[i].1 l[i + 1].1 = true := by
  exact List.pairwise_iff_getElem.1 h i (i + 1) (by omega) hi (by omega)
theorem lessS_asymm {a b : ByteArray} (h : lessS a b = true) : lessS b a = false ∧ b ≠ a := by
  constructor
  · cases hc : lessS b a with
    | false => rfl
    | true => have := lessS_trans h hc; rw [lessS_irrefl] at this; cases this
  · intro e; rw [e, lessS_irrefl] at h; cases h
theorem okP_err {l : List KV} (h : OkP l) (hn : l.length ≤ 512) (hz : 2 + sizeL l ≤ 65536) : errL l = 0 := by
  have hl : 0 < l.length := List.length_pos_iff.2 h.1
  have hall : ∀ j, j < l.length → badAt l j = 0 := by
    intro j hj
    obtain ⟨a, b, c⟩ := h.2.2 l[j] (List.getElem_mem hj)
    unfold badAt badP
    rw [getD_at hj, if_neg (by omega), if_neg (by omega)]
    by_cases h0 : j = 0
    · rw [if_pos h0]; rfl
    · rw [if_neg h0, getD_at (by omega : j - 1 < l.length)]
      have hu := up_at h.2.1 (i := j - 1) (by omega)
      have e : l[j - 1 + 1]'(by omega) = l[j] := by congr 1; omega
      rw [e] at hu
      obtain ⟨u1, u2⟩ := lessS_asymm hu
      unfold badQ
      simp only
      rw [if_neg u2, u1]
      rfl
  rw [(wrong_none (by omega) hall).2, if_neg (by omega)]
theorem encD_mem {l : List GR} {g : GR} (h : g ∈ l) : 2 + sizeL g.2 ≤ (encD l).length := by
  induction l with
  | nil => cases h
  | cons a r ih =>
    unfold encD at ih ⊢
    rw [List.flatMap_cons, List.length_append, recL_len]
    rcases List.mem_cons.1 h with h | h
    · rw [h]; omega
    · have := ih h; omega
/-- groups that are made are groups that Encode takes -/
theorem okG_enc {k : Nat} {l : List GR} (hk : 1 ≤ k ∧ k ≤ 16) (h : OkG k l) (hf : fullL l ≤ 512) (hz : (encD l).length ≤ 65536) : egE (k : Int) l = 0 := by
  refine (eg_ok (by omega) (fun j hj => ?_) (by omega)).1
  obtain ⟨a, b⟩ := h.2 l[j] (List.getElem_mem hj)
  have hm := List.getElem_mem hj
  have f1 := fullL_mem hm
  have f2 := encD_mem hm
  rw [gBad_rec hj (by omega)]
  · exact okP_err b (by omega) (by omega)
  · intro ⟨h0, h1⟩
    rw [gr_at (by omega : j - 1 < l.length)] at h1
    have hu := List.pairwise_iff_getElem.1 h.1 (j - 1) j (by omega) hj (by omega)
    obtain ⟨u1, u2⟩ := lessS_asymm hu
    rcases h1 with h1 | h1
    · exact u2 h1
    · rw [u1] at h1; cases h1
end Go.Proofs.Ytfmmfophdfjopaa
namespace Go.Proofs.Ytfmmfophdfjopaa
open Go.RowKit
theorem putP_append {a b : List KV} {p : KV} (h : ∀ x ∈ a, lessS x.1 p.1 = true) : putP (a ++ b) p = a ++ putP b p := by
  induction a with
  | nil => rfl
  | cons x r ih =>
    obtain ⟨u1, u2⟩ := lessS_asymm (h x List.mem_cons_self)
    rw [List.cons_append, putP, u1, if_neg (by simp), if_neg u2, ih (fun y hy => h y (List.mem_cons_of_mem _ hy)), List.cons_append]
/-- how far putPair is -/
def PInv (ps : List KV) (p : KV) (j : Nat) (m : List KV) (d : Bool) : Prop :=
  (d = false ∧ m = ps.take j ∧ ∀ x ∈ ps.take j, lessS x.1 p.1 = true) ∨ (d = true ∧ m ++ ps.drop j = putP ps p ∧ ∀ x ∈ ps.drop j, lessS p.1 x.1 = true)
theorem PInv.len {ps : List KV} {p : KV} {j : Nat} {m : List KV} {d : Bool} (h : PInv ps p j m d) : m.length ≤ ps.length + 1 := by
  rcases h with ⟨_, rfl, _⟩ | ⟨_, h, _⟩
  · rw [List.length_take]; omega
  · have := congrArg List.length h
    rw [List.length_append] at this
    have := putP_len ps p
    omega
theorem pinv_less {ps : List KV} {p : KV} {j : Nat} {m : List KV} (hu : UpP ps) (h : PInv ps p j m false) (hj : j < ps.length) (hl : lessS p.1 ps[j].1 = true) : PInv ps p (j + 1) (m ++ [p] ++ [ps[j]]) true := by
  rcases h with ⟨_, rfl, h3⟩ | ⟨h, _⟩
  · have hd := List.drop_eq_getElem_cons hj
    right
    refine ⟨rfl, ?_, fun x hx => ?_⟩
    · have e : putP ps p = ps.take j ++ putP (ps.drop j) p := by
        conv => lhs; rw [← List.take_append_drop j ps]
        exact putP_append h3
      rw [e, hd, putP, if_pos hl]
      simp
    · obtain ⟨t, ht, rfl⟩ := List.getElem_of_mem hx
      rw [List.length_drop] at ht
      rw [List.getElem_drop]
      exact lessS_trans hl (List.pairwise_iff_getElem.1 hu j (j + 1 + t) hj (by omega) (by omega))
  · cases h
theorem pinv_same {ps : List KV} {p : KV} {j : Nat} {m : List KV} (hu : UpP ps) (h : PInv ps p j m false) (hj : j < ps.length) (hl : p.1 = ps[j].1) : PInv ps p (j + 1) (m ++ [p]) true := by
  rcases h with ⟨_, rfl, h3⟩ | ⟨h, _⟩
  · have hd := List.drop_eq_getElem_cons hj
    right
    refine ⟨rfl, ?_, fun x hx => ?_⟩
    · have e : putP ps p = ps.take j ++ putP (ps.drop j) p := by
        conv => lhs; rw [← List.take_append_drop j ps]
        exact putP_append h3
      rw [e, hd, putP, hl, lessS_irrefl, if_neg (by simp), if_pos rfl]
      simp
    · obtain ⟨t, ht, rfl⟩ := List.getElem_of_mem hx
      rw [List.length_drop] at ht
      rw [List.getElem_drop, hl]
      exact List.pairwise_iff_getElem.1 hu j (j + 1 + t) hj (by omega) (by omega)
  · cases h
theorem pinv_more {ps : List KV} {p : KV} {j : Nat} {m : List KV} (h : PInv ps p j m false) (hj : j < ps.length) (hl : lessS ps[j].1 p.1 = true) : PInv ps p (j + 1) (m ++ [ps[j]]) false := by
  rcases h with ⟨_, rfl, h3⟩ | ⟨h, _⟩
  · left
    refine ⟨rfl, (List.take_succ_eq_append_getElem hj).symm, fun x hx => ?_⟩
    rw [List.take_succ_eq_append_getElem hj] at hx
    rcases List.mem_append.1 hx with hx | hx
    · exact h3 x hx
    · rw [List.mem_singleton] at hx; rw [hx]; exact hl
  · cases h
theorem pinv_done {ps : List KV} {p : KV} {j : Nat} {m : List KV} (h : PInv ps p j m true) (hj : j < ps.length) : PInv ps p (j + 1) (m ++ [ps[j]]) true ∧ lessS p.1 ps[j].1 = true := by
  rcases h with ⟨h, _⟩ | ⟨_, h2, h3⟩
  · cases h
  · have hd := List.drop_eq_getElem_cons hj
    refine ⟨.inr ⟨rfl, ?_, fun x hx => h3 x (by rw [hd]; exact List.mem_cons_of_mem _ hx)⟩, h3 _ (by rw [hd]; exact List.mem_cons_self)⟩
    rw [← h2, hd]; simp
theorem pinv_end {ps : List KV} {p : KV} {m : List KV} {d : Bool} (h : PInv ps p ps.length m d) : putP ps p = if d then m else m ++ [p] := by
  rcases h with ⟨rfl, rfl, h3⟩ | ⟨rfl, h2, _⟩
  · rw [if_neg (by simp), List.take_length] at *
    have := putP_append (b := []) h3
    rwa [List.append_nil] at this
  · rw [if_pos rfl, ← h2]; simp
theorem leqS (a b : ByteArray) : (Op.bytesLess a.toList b.toList || a.toList == b.toList) = (lessS a b || decide (a = b)) := by rw [eq_beq]; rfl
theorem app_below {B : Nat} {w0 w w' : World} {n : Nat} {o : Obj} {e sz ln : Nat} {v : Value} {xs : List Value} (h : Below B w0 w) (hs : B ≤ w.heap.size) (ho : w.ownsRow B e sz v ln xs) (g : ((w.drewN n).alloc o).grownBy w' v.ownBlock) : Below B w0 w' :=
  ((below_drewN h n).alloc hs _).grown g (le_alloc hs) (fun t ht => (ho.lt t ht).1)
theorem own_drewN {B : Nat} {w : World} {n e sz ln : Nat} {v : Value} {xs : List Value} (ho : w.ownsRow B e sz v ln xs) (o : Obj) : ((w.drewN n).alloc o).ownsRow B e sz v ln xs :=
  (own_below ho (below_drewN (Below.refl _ w) n)).alloc o
theorem le_drewN {B : Nat} {w : World} {n : Nat} {o : Obj} (h : B ≤ w.heap.size) : B ≤ ((w.drewN n).alloc o).heap.size := le_alloc (w := w.drewN n) h
theorem own_snoc {w : World} {base : Nat} {v : Value} {m : List KV} {q : KV} (h : w.ownsRow base 55 2 v (m.length + 1) (pc m ++ pc [q])) : w.ownsRow base 55 2 v (m ++ [q]).length (pc (m ++ [q])) := by
  rw [pc_append, List.length_append]; exact h
set_option maxHeartbeats 1000000 in
set_option maxRecDepth 100000 in
set_option linter.unusedSimpArgs false in
/-- putPair -/
theorem putPair_any (s : SQ) (ps : List KV) (p : KV) (w : World) (hs : PLies w s ps) (hu : UpP ps) (hlen : ps.length ≤ 65536) :
    Calls Try.prog 28 #[.slice s.1 s.2.1 s.2.2, .agg #[.string p.1, .string p.2]] w fun e w' => ∃ v, e = .returned v ∧ w'.ownsRow w.heap.size 55 2 v (putP ps p).length (pc (putP ps p)) ∧ Below w.heap.size w w' := by
  obtain ⟨i0, hi, hz0, hz1, hz2⟩ := info_parts infoP
  obtain ⟨sa, sn, sc⟩ := s
  obtain ⟨b, off, h1, h2, h3, h4⟩ := hs
  simp only at h1 h2 ⊢
  subst h1
  have HL := hide h4
  have HU := hide hu
  obtain ⟨W0, hW0⟩ : ∃ W0, W0 = w.alloc (.cells #[.string p.1, .string p.2] 55) := ⟨_, rfl⟩
  have s0 : W0.heap.size = w.heap.size + 1 := by rw [hW0]; simp
  have b0 : Below w.heap.size w W0 := by rw [hW0]; exact (Below.refl _ w).alloc (Nat.le_refl _) _
  have CC : Hid (∀ w', Below W0.heap.size W0 w' → w'.cell? ⟨w.heap.size, 0, none⟩ = some (.string p.1) ∧ w'.cell? ⟨w.heap.size, 1, none⟩ = some (.string p.2)) := fun w' hb => by
    rw [hb.cell (by rw [s0]; exact Nat.lt_succ_self _), hb.cell (by rw [s0]; exact Nat.lt_succ_self _), hW0]
    exact ⟨by simp, by simp⟩
  have HB0 := hide b0
  have S0 := hide s0
  clear b0 h4 hu s0
  go_enter Try.func28, Try.ntmps28
  go_wp2_with fail
  rw [← hW0]
  go_loopw [5, 6, 7] (fun v d i wr => ∃ (j : Nat) (m : List KV) (db : Bool), j ≤ ps.length ∧ i = .int .i64 (j : Int) ∧ d = .bool db ∧ PInv ps p j m db ∧ wr.ownsRow W0.heap.size 55 2 v m.length (pc m) ∧ Below W0.heap.size W0 wr)
    (fun _ _ i _ => ps.length - (intOf i).toNat)
  case atStart => exact ⟨0, [], false, Nat.zero_le _, rfl, rfl, .inl ⟨rfl, rfl, fun x hx => by cases hx⟩, World.ownsRow_nil _ _ _ _, Below.refl _ _⟩
  case round =>
    obtain ⟨j, m, db, hj, rfl, rfl, hinv, hown, hnx⟩ := hrel
    have hml := hinv.len
    obtain ⟨hm1, hm2⟩ : m.length + 1 ≤ maxLen ∧ (m.length + 1) * 32 ≤ 140737488355328 := by unfold maxLen; omega
    obtain ⟨hm3, hm4⟩ : m.length + 1 + 1 ≤ maxLen ∧ (m.length + 1 + 1) * 32 ≤ 140737488355328 := by unfold maxLen; omega
    have hsz := hnx.size
    obtain ⟨cc0, cc1⟩ := CC.out wr hnx
    have HINV := hide hinv
    have HOWN := hide hown
    have HNX := hide hnx
    have bw : Below w.heap.size w wr := HB0.out.trans (hnx.mono (by rw [S0.out]; exact Nat.le_succ _))
    clear hinv hown hml
    by_cases hlt : j < ps.length
    · have x0 := h2 (by omega)
      have x1 := h3 (by omega)
      subst x0
      obtain ⟨g0, g1⟩ := HL.out.below x1 bw j hlt
      have hji : (j : Int) < (ps.length : Int) := by omega
      have LQ := hide (fun w' (hb : Below W0.heap.size W0 w') => HL.out.below x1 (HB0.out.trans (hb.mono (by rw [S0.out]; exact Nat.le_succ _))) j hlt)
      have PL := hide (fun h q => pinv_less (j := j) (m := m) (p := p) HU.out h hlt q)
      have PS := hide (fun h q => pinv_same (j := j) (m := m) (p := p) HU.out h hlt q)
      have PM := hide (fun h q => pinv_more (j := j) (m := m) (p := p) h hlt q)
      have PD := hide (fun h => pinv_done (j := j) (m := m) (p := p) h hlt)
      clear hnx bw
      generalize ps[j] = Q at *
      cases db with
      | true =>
        obtain ⟨PI, hlq⟩ := PD.out HINV.out
        have HPI := hide PI
        obtain ⟨u1, u2⟩ := lessS_asymm hlq
        have hne : (Q.1.toList == p.1.toList) = false := by rw [eq_beq]; exact decide_eq_false u2
        have hne2 : (Q.1.toList != p.1.toList) = true := by rw [bne, hne]; rfl
        clear PL PS PM PD PI hlq u1 u2
        go_wp2_with fail
        go_quiet (fail)
        go_wp2_with fail
        go_quiet (fail)
        go_wp2_with ((at_builtin; refine wpList_append_own _ rfl _ _ 38 rfl W0.heap.size 55 i0 (.agg #[.string ⟨#[]⟩, .string ⟨#[]⟩]) 2 32 Try.underlying38 hi hz0 hz1 hz2 rfl (by decide) _ _ _ rfl (own_drewN HOWN.out _) ⟨_, 0, none⟩ 1 1 (pc [Q]) rfl (pc_one_len Q) (cell_pair _ Q) (pc_one _) hm1 hm2 (le_drewN hsz) ?_; intro v2 w2 o2 g2 n2; clear n2); have N2 := hide (app_below HNX.out hsz HOWN.out g2); have O2 := hide (own_snoc o2); have s2 : W0.heap.size ≤ w2.heap.size := N2.out.size; clear o2 g2)
        go_roundw
        case rel => exact ⟨j + 1, _, true, by omega, by go_num, rfl, HPI.out, O2.out, N2.out⟩
        case measure => simp [intOf]; omega
      | false =>
        by_cases hl : lessS p.1 Q.1 = true
        · have PI := hide (PL.out HINV.out hl)
          obtain ⟨u1, u2⟩ := lessS_asymm hl
          have hne : (Q.1.toList == p.1.toList) = false := by rw [eq_beq]; exact decide_eq_false u2
          have hne2 : (Q.1.toList != p.1.toList) = true := by rw [bne, hne]; rfl
          have hle : Op.bytesLess p.1.toList Q.1.toList = true := hl
          clear PL PS PM PD hl u1 u2
          go_wp2_with fail
          go_quiet (fail)
          go_wp2_with ((at_builtin; refine wpList_append_own _ rfl _ _ 38 rfl W0.heap.size 55 i0 (.agg #[.string ⟨#[]⟩, .string ⟨#[]⟩]) 2 32 Try.underlying38 hi hz0 hz1 hz2 rfl (by decide) _ _ _ rfl (own_drewN HOWN.out _) ⟨_, 0, none⟩ 1 1 (pc [p]) rfl (pc_one_len p) (cell_pair _ p) (pc_one _) hm1 hm2 (le_drewN hsz) ?_; intro v2 w2 o2 g2 n2; clear n2); have N2 := hide (app_below HNX.out hsz HOWN.out g2); have O2 := hide (own_snoc o2); have s2 : W0.heap.size ≤ w2.heap.size := N2.out.size; clear o2 g2; obtain ⟨q0, q1⟩ := LQ.out w2 N2.out; obtain ⟨cd0, cd1⟩ := CC.out w2 N2.out)
          have hm5 : (m ++ [p]).length + 1 ≤ maxLen ∧ ((m ++ [p]).length + 1) * 32 ≤ 140737488355328 := by rw [List.length_append]; exact ⟨hm3, hm4⟩
          obtain ⟨hm6, hm7⟩ := hm5
          clear g0 g1 cc0 cc1
          go_quiet (fail)
          go_wp2_with ((at_builtin; refine wpList_append_own _ rfl _ _ 38 rfl W0.heap.size 55 i0 (.agg #[.string ⟨#[]⟩, .string ⟨#[]⟩]) 2 32 Try.underlying38 hi hz0 hz1 hz2 rfl (by decide) _ _ _ rfl (own_drewN O2.out _) ⟨_, 0, none⟩ 1 1 (pc [Q]) rfl (pc_one_len Q) (cell_pair _ Q) (pc_one _) hm6 hm7 (le_drewN s2) ?_; intro v3 w3 o3 g3 n3; clear n3); have N3 := hide (app_below N2.out s2 O2.out g3); have O3 := hide (own_snoc o3); have s3 : W0.heap.size ≤ w3.heap.size := N3.out.size; clear o3 g3)
          go_roundw
          case rel => exact ⟨j + 1, _, true, by omega, by go_num, rfl, PI.out, O3.out, N3.out⟩
          case measure => simp [intOf]; omega
        · simp only [Bool.not_eq_true] at hl
          have hle : Op.bytesLess p.1.toList Q.1.toList = false := hl
          by_cases he : p.1 = Q.1
          · have PI := hide (PS.out HINV.out he)
            have hne : (Q.1.toList == p.1.toList) = true := by rw [eq_beq]; exact decide_eq_true he.symm
            have hne2 : (Q.1.toList != p.1.toList) = false := by rw [bne, hne]; rfl
            have hne3 : (p.1.toList == Q.1.toList) = true := by rw [eq_beq]; exact decide_eq_true he
            clear PL PS PM PD hl he
            go_wp2_with fail
            go_quiet (fail)
            go_wp2_with ((at_builtin; refine wpList_append_own _ rfl _ _ 38 rfl W0.heap.size 55 i0 (.agg #[.string ⟨#[]⟩, .string ⟨#[]⟩]) 2 32 Try.underlying38 hi hz0 hz1 hz2 rfl (by decide) _ _ _ rfl (own_drewN HOWN.out _) ⟨_, 0, none⟩ 1 1 (pc [p]) rfl (pc_one_len p) (cell_pair _ p) (pc_one _) hm1 hm2 (le_drewN hsz) ?_; intro v2 w2 o2 g2 n2; clear n2); have N2 := hide (app_below HNX.out hsz HOWN.out g2); have O2 := hide (own_snoc o2); have s2 : W0.heap.size ≤ w2.heap.size := N2.out.size; clear o2 g2; obtain ⟨q0, q1⟩ := LQ.out w2 N2.out; obtain ⟨cd0, cd1⟩ := CC.out w2 N2.out)
            clear g0 g1 cc0 cc1
            go_quiet (fail)
            go_wp2_with fail
            go_roundw
            case rel => exact ⟨j + 1, _, true, by omega, by go_num, rfl, PI.out, own_below O2.out (below_drewN (Below.refl _ _) _), below_drewN N2.out _⟩
            case measure => simp [intOf]; omega
          · have PI := hide (PM.out HINV.out (lessS_no hl he))
            have hne : (Q.1.toList == p.1.toList) = false := by rw [eq_beq]; exact decide_eq_false (fun e => he e.symm)
            have hne2 : (Q.1.toList != p.1.toList) = true := by rw [bne, hne]; rfl
            have hne3 : (p.1.toList == Q.1.toList) = false := by rw [eq_beq]; exact decide_eq_false he
            clear PL PS PM PD hl he
            go_wp2_with fail
            go_quiet (fail)
            go_wp2_with fail
            go_quiet (fail)
            go_wp2_with ((at_builtin; refine wpList_append_own _ rfl _ _ 38 rfl W0.heap.size 55 i0 (.agg #[.string ⟨#[]⟩, .string ⟨#[]⟩]) 2 32 Try.underlying38 hi hz0 hz1 hz2 rfl (by decide) _ _ _ rfl (own_drewN HOWN.out _) ⟨_, 0, none⟩ 1 1 (pc [Q]) rfl (pc_one_len Q) (cell_pair _ Q) (pc_one _) hm1 hm2 (le_drewN hsz) ?_; intro v2 w2 o2 g2 n2; clear n2); have N2 := hide (app_below HNX.out hsz HOWN.out g2); have O2 := hide (own_snoc o2); have s2 : W0.heap.size ≤ w2.heap.size := N2.out.size; clear o2 g2)
            go_roundw
            case rel => exact ⟨j + 1, _, false, by omega, by go_num, rfl, PI.out, O2.out, N2.out⟩
            case measure => simp [intOf]; omega
    · obtain rfl : j = ps.length := by omega
      clear hnx bw
      have hji : ¬ ((ps.length : Int) < (ps.length : Int)) := by omega
      cases db with
      | true =>
        have HEND : Hid (putP ps p = m) := (pinv_end HINV.out).trans (if_pos rfl)
        go_wp2_with fail
        go_ret
        exact ⟨_, rfl, by rw [HEND.out]; exact own_base HOWN.out (by rw [S0.out]; exact Nat.le_succ _), HB0.out.trans (HNX.out.mono (by rw [S0.out]; exact Nat.le_succ _))⟩
      | false =>
        have HEND : Hid (putP ps p = m ++ [p]) := (pinv_end HINV.out).trans (if_neg (by simp))
        go_wp2_with (at_builtin; refine wpList_append_own _ rfl _ _ 38 rfl W0.heap.size 55 i0 (.agg #[.string ⟨#[]⟩, .string ⟨#[]⟩]) 2 32 Try.underlying38 hi hz0 hz1 hz2 rfl (by decide) _ _ _ rfl (HOWN.out.alloc _) ⟨_, 0, none⟩ 1 1 (pc [p]) rfl (pc_one_len p) (cell_pair _ p) (pc_one _) hm1 hm2 (le_alloc hsz) ?_; intro v2 w2 o2 g2 n2; clear n2; have N2 := hide (app_below (n := 0) HNX.out hsz HOWN.out g2); have O2 := hide (own_snoc o2); clear o2 g2)
        go_ret
        exact ⟨_, rfl, by rw [HEND.out]; exact own_base O2.out (by rw [S0.out]; exact Nat.le_succ _), HB0.out.trans (N2.out.mono (by rw [S0.out]; exact Nat.le_succ _))⟩
end Go.Proofs.Ytfmmfophdfjopaa
