import Derived.Test.YtaclbffacnoddaaGreatDoorPart34
namespace Go.Proofs.YtaclbffacnoddaaGreatDoor
open Go.RowKit Go.Shelf
def nOk (n : NV) : Prop := noteOk n.1 n.2.1 n.2.2.1 n.2.2.2 = true
def nS (n : NV) : ByteArray := noteS n.1 n.2.1 n.2.2.1 n.2.2.2
/-- a journal -/
def jl (ns : List NV) : List UInt8 := ns.flatMap fun n => (nS n).data.toList
theorem jl_snoc (ns : List NV) (n : NV) : jl (ns ++ [n]) = jl ns ++ (nS n).data.toList := by simp [jl]
theorem jl_take (ns : List NV) (k : Nat) (hk : k < ns.length) : jl (ns.take (k + 1)) = jl (ns.take k) ++ (nS ns[k]).data.toList := by
  rw [List.take_succ_eq_append_getElem hk, jl_snoc]
theorem jl_split (ns : List NV) (k : Nat) : jl ns = jl (ns.take k) ++ jl (ns.drop k) := by
  unfold jl; rw [← List.flatMap_append, List.take_append_drop]
/-- of a journal the notes are read, whatever stands behind it -/
theorem notes_of {ns : List NV} (hg : ∀ n ∈ ns, nOk n) {tx : ByteArray} {Y : List UInt8} (h : tx.data.toList = jl ns ++ Y) : ∀ k, k ≤ ns.length → notesAt tx k = some (ns.take k, (jl (ns.take k)).length) := by
  intro k
  induction k with
  | zero => intro _; rfl
  | succ k ih =>
    intro hk
    have hk' : k < ns.length := by omega
    have hlen : (jl (ns.take k)).length ≤ tx.size := by rw [← size_data, h, jl_split ns k, List.length_append, List.length_append]; omega
    have hdr : tx.data.toList.drop (jl (ns.take k)).length = (nS ns[k]).data.toList ++ (jl (ns.drop (k + 1)) ++ Y) := by
      rw [h, jl_split ns (k + 1), jl_take ns k hk', List.append_assoc, List.append_assoc, List.drop_left]
    have hok : nOk ns[k] := hg _ (List.getElem_mem hk')
    obtain ⟨f1, f2⟩ := note_fwd hok hlen (by
      show pfx (nS ns[k]) _ = true
      rw [hdr]
      exact pfx_of_take (by rw [← size_data, List.take_left]))
    have hpos : nsz tx (jl (ns.take k)).length ≠ 0 := by
      rw [f2]
      unfold noteS
      rw [if_pos (show noteOk ns[k].1 ns[k].2.1 ns[k].2.2.1 ns[k].2.2.2 = true from hok), ByteArray.size_append, strOf_size, strOf_size, sealL_len]
      omega
    have := notes_step (ih (by omega)) hpos
    rw [this, f1, f2, List.take_succ_eq_append_getElem hk', jl_snoc, List.length_append, size_data]
    rfl
/-- where no line feed stands behind a place, no note stands there -/
theorem nsz_none {tx : ByteArray} {q : Nat} (h : ∀ c ∈ tx.data.toList.drop q, c ≠ 10) : nsz tx q = 0 := by
  unfold nsz ntSize
  cases hok : ntOk (restS tx q) with
  | false => rfl
  | true =>
    exfalso
    unfold ntOk at hok
    simp only [Bool.and_eq_true] at hok
    have h2 := hok.2.1
    unfold unsFit at h2
    simp only [Bool.and_eq_true] at h2
    have h3 : fldOk (sumFD ⟨#[]⟩ 0) ((restS tx q).data.toList.drop (ntN (restS tx q))) = true := h2.1
    rw [(fld_sum (f := sumFD ⟨#[]⟩ 0) (e := 10) rfl rfl rfl rfl _).1, Bool.and_eq_true] at h3
    have h4 := (pfx_nl (h3.2 : pfx nl _ = true)).2
    have h5 := List.mem_of_getElem? h4
    rw [restS_data] at h5
    exact h 10 (List.mem_of_mem_drop h5) rfl
theorem hd_ne : ∀ n : Fin 16, hd n.1 ≠ 10 := by decide
theorem hexL_ne : ∀ (l : List UInt8), ∀ c ∈ hexL l, c ≠ 10
  | [], c, h => by cases h
  | b :: r, c, h => by
    have hb := b.toNat_lt
    rcases List.mem_cons.1 h with rfl | h
    · exact hd_ne ⟨b.toNat / 16, by omega⟩
    · rcases List.mem_cons.1 h with rfl | h
      · exact hd_ne ⟨b.toNat % 16, by omega⟩
      · exact hexL_ne r c h
theorem dec_ne (u : Nat) : ∀ c ∈ Lib.decDigits u, c ≠ 10 := by
  intro c hc e
  have := (dec_facts u).1
  rw [List.all_eq_true] at this
  have := this c hc
  rw [e] at this
  revert this
  decide
/-- a line's only line feed is its last byte -/
theorem line_ne {n : NV} (h : nOk n) : ∀ c ∈ (nS n).data.toList.take ((nS n).size - 1), c ≠ 10 := by
  obtain ⟨c, p, e, s⟩ := n
  have hok : noteOk c p e s = true := h
  have hok' := hok
  unfold noteOk inR at hok'
  simp only [Bool.and_eq_true, decide_eq_true_eq] at hok'
  obtain ⟨⟨⟨⟨c0, c1⟩, p0, p1⟩, e0, e1⟩, s0, s1⟩ := hok'
  have hS : (nS (c, p, e, s)).data.toList = (noteL c p e s ++ hexL (be4 (crcN 0 (noteL c p e s)))) ++ [10] := by
    show (noteS c p e s).data.toList = _
    unfold noteS
    rw [if_pos hok, ba_app, strOf_data, strOf_data]
    unfold sealL
    simp only [List.append_assoc]
    rfl
  have hsz : (nS (c, p, e, s)).size - 1 = (noteL c p e s ++ hexL (be4 (crcN 0 (noteL c p e s)))).length := by rw [← size_data, hS, List.length_append]; simp
  rw [hsz, hS, List.take_left]
  have hit : ∀ n : Int, 0 ≤ n → ∀ x ∈ Lib.itoa n, x ≠ 10 := fun n hn x hx => by
    unfold Lib.itoa at hx; rw [if_neg (by omega)] at hx; exact dec_ne _ x hx
  intro x hx
  rcases List.mem_append.1 hx with hx | hx
  · unfold noteL at hx
    simp only [List.mem_append, List.not_mem_nil, List.mem_singleton, false_or] at hx
    rcases hx with (((hx | hx) | (hx | hx)) | (hx | hx)) | (hx | hx)
    · exact hit c (by omega) x hx
    · subst hx; decide
    · exact hit p (by omega) x hx
    · subst hx; decide
    · exact hit e (by omega) x hx
    · subst hx; decide
    · exact hexL_ne _ x hx
    · subst hx; decide
  · exact hexL_ne _ x hx
/-- of a journal whose last line is torn just the whole lines are read -/
theorem torn_notes {ns : List NV} (hg : ∀ n ∈ ns, nOk n) {n : NV} (hn : nOk n) {k : Nat} (hk : k < (nS n).size) {tx : ByteArray} (h : tx.data.toList = jl ns ++ (nS n).data.toList.take k) : notesAt tx ns.length = some (ns, (jl ns).length) ∧ nsz tx (jl ns).length = 0 := by
  have h1 := notes_of hg h ns.length (Nat.le_refl _)
  rw [List.take_length] at h1
  refine ⟨h1, nsz_none ?_⟩
  rw [h, List.drop_left]
  intro c hc
  refine line_ne hn c ?_
  have : (nS n).data.toList.take k = ((nS n).data.toList.take ((nS n).size - 1)).take k := by rw [List.take_take]; congr 1; omega
  rw [this] at hc
  exact List.mem_of_mem_take hc
end Go.Proofs.YtaclbffacnoddaaGreatDoor
