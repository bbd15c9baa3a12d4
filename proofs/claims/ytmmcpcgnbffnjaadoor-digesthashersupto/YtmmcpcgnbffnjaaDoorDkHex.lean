import Derived.Test.YtmmcpcgnbffnjaaDoorDmMd5
import Derived.Deep.RegionHeld3
import Derived.Deep.AppendLies
namespace Go.Proofs.YtmmcpcgnbffnjaaDoor
open Go.RowKit
theorem ix_digs (w : World) (n : Nat) (h : n < 16) (kd : IntKind := .u8) : (Instr.index 9 (.string ⟨#[48, 49, 50, 51, 52, 53, 54, 55, 56, 57, 97, 98, 99, 100, 101, 102]⟩) (.int kd (n : Int))).run Tryd.prog w = .ok (.int .u8 ((hd n).toNat : Int)) w := by
  have hsz : digs.size = 16 := by simp [digs, ByteArray.size]
  have := run_index_string w 9 digs kd n Tryd.underlying9
  rw [dif_pos ⟨by omega, by rw [hsz]; omega⟩] at this
  rw [show (⟨#[48, 49, 50, 51, 52, 53, 54, 55, 56, 57, 97, 98, 99, 100, 101, 102]⟩ : ByteArray) = digs from rfl, this]
  simp only [Int.toNat_natCast]
  rw [digs_get n h (by rw [hsz]; omega)]
end Go.Proofs.YtmmcpcgnbffnjaaDoor
