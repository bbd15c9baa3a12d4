import Derived.Test.YtgdibjnendjhnaaGreatDoorW7
namespace Go.Proofs.YtgdibjnendjhnaaGreatDoor
open Go.RowKit
set_option maxHeartbeats 400000 in
set_option maxRecDepth 100000 in
theorem kind_no (b m n p : Nat) (s : ByteArray) (w : World) (h : OwnAt w b m n p) (hp : isPath s.data.toList = false) :
    Calls Tryz.prog 18 #[.pointer (some ⟨b, 0, none⟩), .string s] w fun e w' => e = .returned (.tuple #[.int .i64 0, .int .i64 11]) ∧ Below w.heap.size w w' := by
  have HL := hide (look_no b m n p s w h hp)
  clear h hp
  go_enter Tryz.func18, Tryz.ntmps18
  go_wp2_with (go_at_call 49; refine Calls.mono HL.out ?_; rintro e w1 ⟨rfl, hb⟩)
  go_ret2
  exact ⟨rfl, by repeat (first | exact hb | refine Below.alloc ?_ hb.size _ | refine Below.alloc ?_ (by simp; have := hb.size; omega) _)⟩
set_option maxHeartbeats 400000 in
set_option maxRecDepth 100000 in
theorem kind_root (b m n p : Nat) (s : ByteArray) (w : World) (h : OwnAt w b m n p) (hp : s.data.toList = []) :
    Calls Tryz.prog 18 #[.pointer (some ⟨b, 0, none⟩), .string s] w fun e w' => e = .returned (.tuple #[.int .i64 1, .int .i64 0]) ∧ Below w.heap.size w w' := by
  have HL := hide (look_root b m n p s w h hp)
  clear h hp
  go_enter Tryz.func18, Tryz.ntmps18
  go_wp2_with (go_at_call 49; refine Calls.mono HL.out ?_; rintro e w1 ⟨rfl, hb⟩)
  go_ret2
  exact ⟨rfl, by repeat (first | exact hb | refine Below.alloc ?_ hb.size _ | refine Below.alloc ?_ (by simp; have := hb.size; omega) _)⟩
set_option maxHeartbeats 400000 in
set_option maxRecDepth 100000 in
theorem kind_one (b m n p : Nat) (s : ByteArray) (w : World) (h : OwnAt w b m n p) (hp : isPath s.data.toList = true) (hn : nNames s.data.toList = 1) :
    Calls Tryz.prog 18 #[.pointer (some ⟨b, 0, none⟩), .string s] w fun e w' => e = .returned (.tuple #[.int .i64 0, .int .i64 12]) ∧ Below w.heap.size w w' := by
  have HL := hide (look_one b m n p s w h hp hn)
  clear h hp hn
  go_enter Tryz.func18, Tryz.ntmps18
  go_wp2_with (go_at_call 49; refine Calls.mono HL.out ?_; rintro e w1 ⟨x, rfl, hb⟩)
  go_ret2
  exact ⟨rfl, by repeat (first | exact hb | refine Below.alloc ?_ hb.size _ | refine Below.alloc ?_ (by simp; have := hb.size; omega) _)⟩
set_option maxHeartbeats 400000 in
set_option maxRecDepth 100000 in
theorem kind_deep (b m n p : Nat) (s : ByteArray) (w : World) (h : OwnAt w b m n p) (k : Nat) (hp : isPath s.data.toList = true) (hn : nNames s.data.toList = k) (hk2 : 2 ≤ k) (hk8 : k ≤ 8) :
    Calls Tryz.prog 18 #[.pointer (some ⟨b, 0, none⟩), .string s] w fun e w' => e = .returned (.tuple #[.int .i64 0, .int .i64 12]) ∧ Below w.heap.size w w' := by
  have HL := hide (look_deep b m n p k s w h hp hn hk2 hk8)
  clear h hp hn hk2 hk8
  go_enter Tryz.func18, Tryz.ntmps18
  go_wp2_with (go_at_call 49; refine Calls.mono HL.out ?_; rintro e w1 ⟨rfl, hb⟩)
  go_ret2
  exact ⟨rfl, by repeat (first | exact hb | refine Below.alloc ?_ hb.size _ | refine Below.alloc ?_ (by simp; have := hb.size; omega) _)⟩
set_option maxHeartbeats 400000 in
set_option maxRecDepth 100000 in
theorem enter_no (b m n p : Nat) (s : ByteArray) (w : World) (h : OwnAt w b m n p) (hp : isPath s.data.toList = false) (kd : Int) :
    Calls Tryz.prog 58 #[.pointer (some ⟨b, 0, none⟩), .string s, .int .i64 kd] w fun e w' => e = .returned (.int .i64 11) ∧ Below w.heap.size w w' := by
  have HL := hide (look_no b m n p s w h hp)
  clear h hp
  go_enter Tryz.func58, Tryz.ntmps58
  go_wp2_with (go_at_call 49; refine Calls.mono HL.out ?_; rintro e w1 ⟨rfl, hb⟩)
  go_ret
  exact ⟨rfl, by repeat (first | exact hb | refine Below.alloc ?_ hb.size _ | refine Below.alloc ?_ (by simp; have := hb.size; omega) _)⟩
set_option maxHeartbeats 400000 in
set_option maxRecDepth 100000 in
theorem enter_root (b m n p : Nat) (s : ByteArray) (w : World) (h : OwnAt w b m n p) (hp : s.data.toList = []) (kd : Int) :
    Calls Tryz.prog 58 #[.pointer (some ⟨b, 0, none⟩), .string s, .int .i64 kd] w fun e w' => e = .returned (.int .i64 13) ∧ Below w.heap.size w w' := by
  have HL := hide (look_root b m n p s w h hp)
  clear h hp
  go_enter Tryz.func58, Tryz.ntmps58
  go_wp2_with (go_at_call 49; refine Calls.mono HL.out ?_; rintro e w1 ⟨rfl, hb⟩)
  go_ret
  exact ⟨rfl, by repeat (first | exact hb | refine Below.alloc ?_ hb.size _ | refine Below.alloc ?_ (by simp; have := hb.size; omega) _)⟩
set_option maxHeartbeats 400000 in
set_option maxRecDepth 100000 in
theorem enter_deep (b m n p : Nat) (s : ByteArray) (w : World) (h : OwnAt w b m n p) (k : Nat) (hp : isPath s.data.toList = true) (hn : nNames s.data.toList = k) (hk2 : 2 ≤ k) (hk8 : k ≤ 8) (kd : Int) :
    Calls Tryz.prog 58 #[.pointer (some ⟨b, 0, none⟩), .string s, .int .i64 kd] w fun e w' => e = .returned (.int .i64 12) ∧ Below w.heap.size w w' := by
  have HL := hide (look_deep b m n p k s w h hp hn hk2 hk8)
  clear h hp hn hk2 hk8
  go_enter Tryz.func58, Tryz.ntmps58
  go_wp2_with (go_at_call 49; refine Calls.mono HL.out ?_; rintro e w1 ⟨rfl, hb⟩)
  go_ret
  exact ⟨rfl, by repeat (first | exact hb | refine Below.alloc ?_ hb.size _ | refine Below.alloc ?_ (by simp; have := hb.size; omega) _)⟩
set_option maxHeartbeats 400000 in
set_option maxRecDepth 100000 in
theorem remove_no (b m n p : Nat) (s : ByteArray) (w : World) (h : OwnAt w b m n p) (hp : isPath s.data.toList = false) (he : s.toList.isEmpty = false) :
    Calls Tryz.prog 36 #[.pointer (some ⟨b, 0, none⟩), .string s] w fun e w' => e = .returned (.int .i64 11) ∧ Below w.heap.size w w' := by
  have HR := readyH h
  have HL := hide (look_no b m n p s w h hp)
  clear h hp
  go_enter Tryz.func36, Tryz.ntmps36
  go_wp2_with (first
    | (go_at_call 63; refine Calls.mono (HR.out _ (Below.refl _ _)) ?_; rintro e w' ⟨rfl, rfl⟩)
    | (go_at_call 49; refine Calls.mono HL.out ?_; rintro e w1 ⟨rfl, hb⟩))
  go_ret
  exact ⟨rfl, by repeat (first | exact hb | refine Below.alloc ?_ hb.size _ | refine Below.alloc ?_ (by simp; have := hb.size; omega) _)⟩
set_option maxHeartbeats 400000 in
set_option maxRecDepth 100000 in
theorem remove_one (b m n p : Nat) (s : ByteArray) (w : World) (h : OwnAt w b m n p) (hp : isPath s.data.toList = true) (hn : nNames s.data.toList = 1) (he : s.toList.isEmpty = false) :
    Calls Tryz.prog 36 #[.pointer (some ⟨b, 0, none⟩), .string s] w fun e w' => e = .returned (.int .i64 12) ∧ Below w.heap.size w w' := by
  have HR := readyH h
  have HL := hide (look_one b m n p s w h hp hn)
  clear h hp hn
  go_enter Tryz.func36, Tryz.ntmps36
  go_wp2_with (first
    | (go_at_call 63; refine Calls.mono (HR.out _ (Below.refl _ _)) ?_; rintro e w' ⟨rfl, rfl⟩)
    | (go_at_call 49; refine Calls.mono HL.out ?_; rintro e w1 ⟨x, rfl, hb⟩))
  go_ret
  exact ⟨rfl, by repeat (first | exact hb | refine Below.alloc ?_ hb.size _ | refine Below.alloc ?_ (by simp; have := hb.size; omega) _)⟩
set_option maxHeartbeats 400000 in
set_option maxRecDepth 100000 in
theorem remove_deep (b m n p : Nat) (s : ByteArray) (w : World) (h : OwnAt w b m n p) (k : Nat) (hp : isPath s.data.toList = true) (hn : nNames s.data.toList = k) (hk2 : 2 ≤ k) (hk8 : k ≤ 8) (he : s.toList.isEmpty = false) :
    Calls Tryz.prog 36 #[.pointer (some ⟨b, 0, none⟩), .string s] w fun e w' => e = .returned (.int .i64 12) ∧ Below w.heap.size w w' := by
  have HR := readyH h
  have HL := hide (look_deep b m n p k s w h hp hn hk2 hk8)
  clear h hp hn hk2 hk8
  go_enter Tryz.func36, Tryz.ntmps36
  go_wp2_with (first
    | (go_at_call 63; refine Calls.mono (HR.out _ (Below.refl _ _)) ?_; rintro e w' ⟨rfl, rfl⟩)
    | (go_at_call 49; refine Calls.mono HL.out ?_; rintro e w1 ⟨rfl, hb⟩))
  go_ret
  exact ⟨rfl, by repeat (first | exact hb | refine Below.alloc ?_ hb.size _ | refine Below.alloc ?_ (by simp; have := hb.size; omega) _)⟩
set_option maxHeartbeats 400000 in
set_option maxRecDepth 100000 in
theorem remove_root (b m n p : Nat) (s : ByteArray) (w : World) (h : OwnAt w b m n p) (he : s.toList.isEmpty = true) :
    Calls Tryz.prog 36 #[.pointer (some ⟨b, 0, none⟩), .string s] w fun e w' => e = .returned (.int .i64 11) ∧ w' = w := by
  have HR := readyH h
  clear h
  go_enter Tryz.func36, Tryz.ntmps36
  go_wp2_with (go_at_call 63; refine Calls.mono (HR.out _ (Below.refl _ _)) ?_; rintro e w' ⟨rfl, rfl⟩)
  go_ret
  exact ⟨rfl, rfl⟩
end Go.Proofs.YtgdibjnendjhnaaGreatDoor
