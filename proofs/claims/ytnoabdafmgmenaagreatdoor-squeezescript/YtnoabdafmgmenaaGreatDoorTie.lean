/-
  DERIVED. GIVEN WITH THE SEED: THE PROGRAM's TIES (one call each: nine closed facts by the kernel) AND EACH ROW's TIE, after the 31st guide's Derived/Test/Toyas{Tie, Card}.lean. No idea stands in it: it is a product of the set-up. Laid BY PROGRAM, IN A SANDBOX (cutbox-door.mjs). By AI agents, Wed Nov 11 2026. No macro, syntax, notation, axiom, sorry.
-/
import Derived.Test.YtnoabdafmgmenaaGreatDoorRows
import Derived.LaidByTextLater
import Derived.SevenTiedAt
import Derived.LaidSub
import Derived.LaidOnce
namespace Go.Proofs.YtnoabdafmgmenaaGreatDoor
open Go
set_option maxRecDepth 100000
theorem seatTie1 : Tryz.prog.laidByTextLater [("sluicegate/inflate.copyLengths", Rows.laid_sluicegate_inflate_copyLengths), ("sluicegate/inflate.copyDistances", Rows.laid_sluicegate_inflate_copyDistances), ("sluicegate/inflate.lengthOrder", Rows.laid_sluicegate_inflate_lengthOrder)] [.data, .data, .data] true :=
  Program.laidByTextLater_by_one 83 8 61 (by kernel_rfl) (by kernel_rfl) (by kernel_rfl) (by kernel_rfl) (by kernel_rfl) (by kernel_rfl) (fun _ _ => by kernel_rfl)
theorem noOwnUnsafe : Tryz.pinned.checked.prog.headLifts.contains "ownunsafe" = false := by kernel_rfl
theorem tie : Tryz.prog.laidByTextLater [("sluicegate/inflate.copyLengths", Rows.laid_sluicegate_inflate_copyLengths), ("sluicegate/inflate.copyDistances", Rows.laid_sluicegate_inflate_copyDistances), ("sluicegate/inflate.lengthOrder", Rows.laid_sluicegate_inflate_lengthOrder)] [.data, .data, .data] true :=
  Program.laidByTextLater.sub seatTie1 ["sluicegate/inflate.copyLengths", "sluicegate/inflate.copyDistances", "sluicegate/inflate.lengthOrder"] (by kernel_rfl) (by kernel_rfl)
theorem squeezeScript_row_tie : Rows.squeezeScriptRow.laidByTextAt .later Tryz.pinned [.data, .data, .data] true :=
  OpenClaim.laidByTextAt_later rfl rfl tie noOwnUnsafe
theorem squeezeScriptUpto_row_tie : Rows.squeezeScriptUptoRow.laidByTextAt .later Tryz.pinned [.data, .data, .data] true :=
  OpenClaim.laidByTextAt_later rfl rfl tie noOwnUnsafe
end Go.Proofs.YtnoabdafmgmenaaGreatDoor
