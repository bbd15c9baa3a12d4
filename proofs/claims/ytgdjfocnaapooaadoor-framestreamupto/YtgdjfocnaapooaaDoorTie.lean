/-
  DERIVED. GIVEN WITH THE SEED: THE PROGRAM's TIES (one call each: nine closed facts by the kernel) AND EACH ROW's TIE, after the 31st guide's Derived/Test/Toyas{Tie, Card}.lean. No idea stands in it: it is a product of the set-up. Laid BY PROGRAM, IN A SANDBOX (cutbox-door.mjs). By AI agents, Wed Nov 11 2026. No macro, syntax, notation, axiom, sorry.
-/
import Derived.Test.YtgdjfocnaapooaaDoorRows
import Derived.LaidByTextLater
import Derived.SevenTiedAt
import Derived.LaidSub
import Derived.LaidOnce
namespace Go.Proofs.YtgdjfocnaapooaaDoor
open Go
set_option maxRecDepth 100000
theorem seatTie1 : Tryd.prog.laidByTextLater [("granary/granaryref5.fields", Rows.laid_granary_granaryref5_fields), ("granary/digest.fourSteps", Rows.laid_granary_digest_fourSteps), ("granary/frame.shapes", Rows.laid_granary_frame_shapes), ("granary/frame.heads", Rows.laid_granary_frame_heads), ("granary/frame.bodies", Rows.laid_granary_frame_bodies), ("granary/granarylaw5.kindHas", Rows.laid_granary_granarylaw5_kindHas)] [.data, .data, .data, .data, .data, .data] true :=
  Program.laidByTextLater_by_one 65 8 31 (by kernel_rfl) (by kernel_rfl) (by kernel_rfl) (by kernel_rfl) (by kernel_rfl) (by kernel_rfl) (fun _ _ => by kernel_rfl)
theorem noOwnUnsafe : Tryd.pinned.checked.prog.headLifts.contains "ownunsafe" = false := by kernel_rfl
theorem tie : Tryd.prog.laidByTextLater [("granary/digest.fourSteps", Rows.laid_granary_digest_fourSteps), ("granary/frame.shapes", Rows.laid_granary_frame_shapes), ("granary/frame.heads", Rows.laid_granary_frame_heads), ("granary/frame.bodies", Rows.laid_granary_frame_bodies)] [.data, .data, .data, .data] true :=
  Program.laidByTextLater.sub seatTie1 ["granary/digest.fourSteps", "granary/frame.shapes", "granary/frame.heads", "granary/frame.bodies"] (by kernel_rfl) (by kernel_rfl)
theorem frameCuts_row_tie : Rows.frameCutsRow.laidByTextAt .later Tryd.pinned [.data, .data, .data, .data] true :=
  OpenClaim.laidByTextAt_later rfl rfl tie noOwnUnsafe
theorem tie2 : Tryd.prog.laidByTextLater [("granary/granaryref5.fields", Rows.laid_granary_granaryref5_fields), ("granary/digest.fourSteps", Rows.laid_granary_digest_fourSteps), ("granary/frame.shapes", Rows.laid_granary_frame_shapes), ("granary/frame.heads", Rows.laid_granary_frame_heads), ("granary/frame.bodies", Rows.laid_granary_frame_bodies)] [.data, .data, .data, .data, .data] true :=
  Program.laidByTextLater.sub seatTie1 ["granary/granaryref5.fields", "granary/digest.fourSteps", "granary/frame.shapes", "granary/frame.heads", "granary/frame.bodies"] (by kernel_rfl) (by kernel_rfl)
theorem frameScans_row_tie : Rows.frameScansRow.laidByTextAt .later Tryd.pinned [.data, .data, .data, .data, .data] true :=
  OpenClaim.laidByTextAt_later rfl rfl tie2 noOwnUnsafe
theorem frameSplits_row_tie : Rows.frameSplitsRow.laidByTextAt .later Tryd.pinned [.data, .data, .data, .data, .data] true :=
  OpenClaim.laidByTextAt_later rfl rfl tie2 noOwnUnsafe
theorem frameReaders_row_tie : Rows.frameReadersRow.laidByTextAt .later Tryd.pinned [.data, .data, .data, .data, .data] true :=
  OpenClaim.laidByTextAt_later rfl rfl tie2 noOwnUnsafe
theorem tie3 : Tryd.prog.laidByTextLater [("granary/digest.fourSteps", Rows.laid_granary_digest_fourSteps), ("granary/frame.shapes", Rows.laid_granary_frame_shapes), ("granary/frame.heads", Rows.laid_granary_frame_heads), ("granary/frame.bodies", Rows.laid_granary_frame_bodies), ("granary/granarylaw5.kindHas", Rows.laid_granary_granarylaw5_kindHas)] [.data, .data, .data, .data, .data] true :=
  Program.laidByTextLater.sub seatTie1 ["granary/digest.fourSteps", "granary/frame.shapes", "granary/frame.heads", "granary/frame.bodies", "granary/granarylaw5.kindHas"] (by kernel_rfl) (by kernel_rfl)
theorem frameStream_row_tie : Rows.frameStreamRow.laidByTextAt .later Tryd.pinned [.data, .data, .data, .data, .data] true :=
  OpenClaim.laidByTextAt_later rfl rfl tie3 noOwnUnsafe
theorem frameCutsUpto_row_tie : Rows.frameCutsUptoRow.laidByTextAt .later Tryd.pinned [.data, .data, .data, .data] true :=
  OpenClaim.laidByTextAt_later rfl rfl tie noOwnUnsafe
theorem frameScansUpto_row_tie : Rows.frameScansUptoRow.laidByTextAt .later Tryd.pinned [.data, .data, .data, .data, .data] true :=
  OpenClaim.laidByTextAt_later rfl rfl tie2 noOwnUnsafe
theorem frameStreamUpto_row_tie : Rows.frameStreamUptoRow.laidByTextAt .later Tryd.pinned [.data, .data, .data, .data, .data] true :=
  OpenClaim.laidByTextAt_later rfl rfl tie3 noOwnUnsafe
theorem frameSplitsUpto_row_tie : Rows.frameSplitsUptoRow.laidByTextAt .later Tryd.pinned [.data, .data, .data, .data, .data] true :=
  OpenClaim.laidByTextAt_later rfl rfl tie2 noOwnUnsafe
theorem frameReadersUpto_row_tie : Rows.frameReadersUptoRow.laidByTextAt .later Tryd.pinned [.data, .data, .data, .data, .data] true :=
  OpenClaim.laidByTextAt_later rfl rfl tie2 noOwnUnsafe
end Go.Proofs.YtgdjfocnaapooaaDoor
