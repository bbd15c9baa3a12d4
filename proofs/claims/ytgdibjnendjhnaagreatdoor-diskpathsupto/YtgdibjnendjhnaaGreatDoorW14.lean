import Derived.Test.YtgdibjnendjhnaaGreatDoorW13
import Derived.Deep.RegionHeld3
import Derived.Deep.AppendLies
namespace Go.Proofs.YtgdibjnendjhnaaGreatDoor
open Go.RowKit
open Go.ChangeMaps (setBlock)
theorem info126 : (Tryz.prog.info? 126).map (fun i => (i.zero, i.size, i.bytes)) = some (some (.agg #[.int .i64 0, .int .i64 0, .int .i64 0, .string ByteArray.empty, .int .i64 0, .string ByteArray.empty, .string ByteArray.empty, .int .i64 0, .int .i64 0, .int .i64 0, .int .i64 0]), 11, 112) := by kernel_rfl
theorem cell_setBlock {w : World} {m : Nat} {o : Obj} {a : Addr} (h : a.block ≠ m) : (setBlock w m o).cell? a = w.cell? a := World.cell?_of_block (setBlock_get h)
theorem blk_new {W w : World} {o : Obj} (hs : W.heap.size = w.heap.size) : (W.alloc o).drew.heap[w.heap.size]? = some o := by rw [← hs]; exact heap_alloc_new W o
theorem row_cells {w : World} {B : Nat} {cs : Array Value} {t : TypeId} {fr : Nat × Nat} (h : w.heap[B]? = some (.cells cs t fr)) (j : Nat) : w.cell? ⟨B, j, none⟩ = cs[j]? := cell_of_row w B j cs t fr h
set_option maxHeartbeats 4000000 in
set_option maxRecDepth 100000 in
theorem change_ok (b m n p : Nat) (n1 kd : Int) (x : ByteArray) (w : World) (h : OwnW w b m n p) :
    Calls Tryz.prog 60 #[.pointer (some ⟨b, 0, none⟩), .agg #[.int .i64 0, .int .i64 0, .int .i64 3, .string ⟨#[]⟩, .int .i64 0, .string ⟨#[]⟩, .string x, .int .i64 n1, .int .i64 kd, .int .i64 0, .int .i64 0], .int .i64 0] w fun e w' => e = .returned (.int .i64 0) ∧ Keeps (fun k => k = b ∨ k = m ∨ k = p) w w' ∧ (w'.cell? ⟨b, 7, none⟩).isSome = true ∧ w'.frozen? ⟨b, 7, none⟩ = false := by
  have h7 := h.c7
  have f7 := h.fz 7
  have h1 := h.c1
  have h8 := h.c8
  have h9 := h.c9
  have h10 := h.at0.c10
  have h11 := h.at0.c11
  have h14 := h.at0.c14
  have f1 := h.fz 1
  have f8 := h.fz 8
  have f9 := h.fz 9
  have hlt := h.at0.lt
  have HW := hide h
  have HA : Hid (∀ ob, Calls Tryz.prog 82 #[.pointer (some ⟨b, 0, none⟩)] (w.alloc ob) fun e w' => e = .returned (.int .i64 0) ∧ (w.alloc ob).setCell ⟨b, 2, none⟩ (.int .i64 1) = w') := fun ob => by
    have hl := h.later ((Below.refl _ w).alloc (Nat.le_refl _) ob)
    exact (act_ok b (w.alloc ob) hl.c4 hl.c2 (hl.fz 2)).mono fun _ _ hh => ⟨hh.1, hh.2.symm⟩
  obtain ⟨clk, hm⟩ := h.at0.hm
  obtain ⟨clock, hp⟩ := h.hp
  have hmlt : m < w.heap.size := by
    rcases Nat.lt_or_ge m w.heap.size with h' | h'
    · exact h'
    · rw [Array.getElem?_eq_none h'] at hm; simp at hm
  have hplt : p < w.heap.size := by
    rcases Nat.lt_or_ge p w.heap.size with h' | h'
    · exact h'
    · rw [Array.getElem?_eq_none h'] at hp; simp at hp
  have HM : Hid (∀ W, Keeps (fun k => k = b) w W → W.heap[m]? = some (.map #[] clk)) := fun W hk => (hk.block m hmlt (fun e => h.hbm e.symm)).trans hm
  have HPp : Hid (∀ W, Keeps (fun k => k = b ∨ k = m) w W → W.heap[p]? = some (.map #[] clock)) := fun W hk => (hk.block p hplt (fun e => by rcases e with e | e; exact h.hbp e.symm; exact h.hmp e.symm)).trans hp
  have hbm := h.hbm
  have HNP : Hid (b ≠ p) := h.hbp
  clear h hm hp
  obtain ⟨i0, hi0, hz0, hz1, hz2⟩ := info_parts info126
  go_enter Tryz.func60, Tryz.ntmps60
  go_wp2_with (go_at_call 82; refine Calls.mono (HA.out _) ?_; rintro e w1 ⟨rfl, rfl⟩)
  go_region_with (go_at_call 83; refine Calls.mono (do_any m n clk _ _ _ _ _ (HM.out _ ?_)) ?_; (repeat (first | exact Keeps.refl _ _ | refine Keeps.drew ?_ | refine Keeps.alloc ?_ _ | refine Keeps.setCellB ?_ (by simp) _ _)); rintro e w2 ⟨rfl, hk2⟩)
  all_goals
    have hK : Keeps (fun k => k = b ∨ k = m) w w2 := by
      refine Keeps.trans ?_ (hk2.mono (fun k e => Or.inr e))
      repeat (first | exact Keeps.refl _ _ | refine Keeps.drew ?_ | refine Keeps.alloc ?_ _ | refine Keeps.setCellB ?_ (by simp) _ _)
    have hsz := hk2.size
    have hblk : w2.heap[w.heap.size]? = some (.cells #[(.int .i64 1), (.int .i64 0), (.int .i64 3), (.string ⟨#[]⟩), (.int .i64 0), (.string ⟨#[]⟩), (.string x), (.int .i64 n1), (.int .i64 kd), (.int .i64 0), (.int .i64 0)] 126) := by
      rw [hk2.block w.heap.size (by simp) (by omega)]
      exact blk_new (by simp [World.setCell])
    have hp2 := HPp.out w2 hK
    have d14 : w2.cell? ⟨b, 14, none⟩ = some (.map (some p)) := by
      rw [hk2.cell (p := ⟨b, 14, none⟩) (by simp; omega) (by simpa using hbm)]
      simp [go_sem, h14, hlt]
    have d7 : w2.cell? ⟨b, 7, none⟩ = some (.int .i64 0) := by
      rw [hk2.cell (p := ⟨b, 7, none⟩) (by simp; omega) (by simpa using hbm)]
      simp [go_sem, h7, hlt]
    have df7 : w2.frozen? ⟨b, 7, none⟩ = false := by
      rw [hk2.frozen (p := ⟨b, 7, none⟩) (by simp; omega) (by simpa using hbm)]
      simp [go_sem, f7, hlt]
    have HD7 := hide d7
    have HF7 := hide df7
    clear d7 df7
    have e0 := row_cells hblk 0
    have e1 := row_cells hblk 1
    have e2 := row_cells hblk 2
    have e3 := row_cells hblk 3
    have e4 := row_cells hblk 4
    have e5 := row_cells hblk 5
    have e6 := row_cells hblk 6
    have e7 := row_cells hblk 7
    have e8 := row_cells hblk 8
    have e9 := row_cells hblk 9
    have e10 := row_cells hblk 10
    simp at e0 e1 e2 e3 e4 e5 e6 e7 e8 e9 e10
    have hs1 : w.heap.size < w2.heap.size := by have := hk2.size; simp at this; omega
    have hb2 : b < w2.heap.size := by omega
    have hp2lt : p < w2.heap.size := by omega
    have hlookA : (Instr.lookup 83 (.map (some p)) (.int .i64 0) false).run Tryz.prog w2.drew = .ok (.slice none 0 0) w2.drew := look_pend _ p clock 0 hp2
    have hlookB : ∀ o, (Instr.lookup 83 (.map (some p)) (.int .i64 0) false).run Tryz.prog (w2.alloc o).drew = .ok (.slice none 0 0) (w2.alloc o).drew := fun o => look_pend _ p clock 0 ((Below.heap_alloc w2 o p hp2lt).trans hp2)
    have HP2 := hide hp2
    have nbp : b ≠ p := HNP.out
    have nwp : w.heap.size ≠ p := by omega
    clear hp2
    clear hblk hsz h7 f7 h1 h8 h9 h10 h11 h14 f1 f8 f9
    go_wp2_with fail
    go_region_held3 (fun w' => w'.cell? ⟨b, 14, none⟩ = some (.map (some p)) ∧ w'.cell? ⟨w.heap.size, 0, none⟩ = some (.int .i64 1) ∧ w'.cell? ⟨w.heap.size, 1, none⟩ = some (.int .i64 0) ∧ w'.cell? ⟨w.heap.size, 2, none⟩ = some (.int .i64 3) ∧ w'.cell? ⟨w.heap.size, 3, none⟩ = some (.string ⟨#[]⟩) ∧ w'.cell? ⟨w.heap.size, 4, none⟩ = some (.int .i64 0) ∧ w'.cell? ⟨w.heap.size, 5, none⟩ = some (.string ⟨#[]⟩) ∧ w'.cell? ⟨w.heap.size, 6, none⟩ = some (.string x) ∧ w'.cell? ⟨w.heap.size, 7, none⟩ = some (.int .i64 n1) ∧ w'.cell? ⟨w.heap.size, 8, none⟩ = some (.int .i64 kd) ∧ w'.cell? ⟨w.heap.size, 9, none⟩ = some (.int .i64 0) ∧ w'.cell? ⟨w.heap.size, 10, none⟩ = some (.int .i64 0))
      (first | (go_split_ands; refine ⟨by go_keep, by go_keep, by go_keep, by go_keep, by go_keep, by go_keep, by go_keep, by go_keep, by go_keep, by go_keep, by go_keep, by go_keep⟩) | (go_split_ands; refine ⟨?_, ?_, ?_, ?_, ?_, ?_, ?_, ?_, ?_, ?_, ?_, ?_⟩; all_goals (rw [hgrow.cell_far _ (by simp; omega) (by simp [Value.ownBlock])]; assumption)) | (go_split_ands; refine ⟨?_, ?_, ?_, ?_, ?_, ?_, ?_, ?_, ?_, ?_, ?_, ?_⟩; all_goals (rw [cell_setBlock (by assumption)]; assumption)))
      ((refine step_append_lies _ (by rfl) _ _ _ (by rfl) w2.heap.size 126 i0 _ 11 112 Tryz.underlying151 hi0 hz0 hz1 hz2 rfl (by omega) (.slice none 0 0) 0 [] (by rfl) (World.ownsRow_nil _ _ _ _) ⟨w2.heap.size, 0, none⟩ 1 1 [(.int .i64 1), (.int .i64 0), (.int .i64 3), (.string ⟨#[]⟩), (.int .i64 0), (.string ⟨#[]⟩), (.string x), (.int .i64 n1), (.int .i64 kd), (.int .i64 0), (.int .i64 0)] (by rfl) (by rfl) (World.news_of_block (cs := #[(.int .i64 1), (.int .i64 0), (.int .i64 3), (.string ⟨#[]⟩), (.int .i64 0), (.string ⟨#[]⟩), (.string x), (.int .i64 n1), (.int .i64 kd), (.int .i64 0), (.int .i64 0)]) (t := 126) (fr := (0, 0)) (heap_alloc_new w2 _)) (by simp [Value.oneCell']) (by omega) (by unfold maxLen; omega) (by omega) (by simp) (w2.heap.size + 1) (by simp) ?_; intro gg cap w3 hown1 hgrow hat hlt3; have hup3 : ∀ v, (Instr.mapUpdate 83 (.map (some p)) (.int .i64 0) v).run Tryz.prog w3 = .ok () (setBlock w3 p (.map #[{ key := .int .i64 0, val := v, born := clock }] (clock + 1))) := fun v => upd_pend w3 p clock 0 v ((hgrow.block p (by simp; omega) (by simp [Value.ownBlock])).trans ((Below.heap_alloc w2 _ p hp2lt).trans HP2.out))))
    all_goals
      have hK3 : Keeps (fun k => k = b ∨ k = m ∨ k = p) w w3 := Keeps.grown (Keeps.drew (Keeps.alloc (hK.mono (fun k e => by rcases e with e | e; exact Or.inl e; exact Or.inr (Or.inl e))) _)) hgrow (by simp [Value.ownBlock])
      have hKe : ∀ o, Keeps (fun k => k = b ∨ k = m ∨ k = p) w (setBlock w3 p o) := fun o => Keeps.setBlock hK3 (Or.inl (Or.inr (Or.inr rfl))) o
      have h7e : w3.cell? ⟨b, 7, none⟩ = some (.int .i64 0) := by
        rw [hgrow.cell_far _ (by simp; omega) (by simp [Value.ownBlock])]
        simp [go_sem, HD7.out, hb2]
      have f7e : w3.frozen? ⟨b, 7, none⟩ = false := by
        rw [hgrow.frozen_far _ (by simp; omega) (by simp [Value.ownBlock])]
        simp [go_sem, HF7.out, hb2]
      have hKf : ∀ o, Keeps (fun k => k = b ∨ k = m ∨ k = p) w (setBlock w3 p o) ∧ ((setBlock w3 p o).cell? ⟨b, 7, none⟩).isSome = true ∧ (setBlock w3 p o).frozen? ⟨b, 7, none⟩ = false := fun o =>
        ⟨hKe o, by rw [cell_setBlock nbp, h7e]; rfl, by rw [World.frozen?_of_block (a := ⟨b, 7, none⟩) (setBlock_get nbp)]; exact f7e⟩
      have HKE := hide hKf
      clear hKe hKf h7e f7e
      go_wp2
      go_ret
      exact ⟨rfl, HKE.out _⟩
end Go.Proofs.YtgdibjnendjhnaaGreatDoor
