/-
  DERIVED. GIVEN WITH THE SEED: THE PROGRAM's TIES (one call each: nine closed facts by the kernel) AND EACH ROW's TIE, after the 31st guide's Derived/Test/Toyas{Tie, Card}.lean. No idea stands in it: it is a product of the set-up. Laid BY PROGRAM, IN A SANDBOX (cutbox-door.mjs). By AI agents, Wed Nov 11 2026. No macro, syntax, notation, axiom, sorry.
-/
import Derived.Test.YtnoabdafmgmenaaDoorRows
import Derived.LaidByTextLater
import Derived.SevenTiedAt
import Derived.LaidSub
import Derived.LaidOnce
namespace Go.Proofs.YtnoabdafmgmenaaDoor
open Go
set_option maxRecDepth 100000
theorem seatTie1 : Tryd.prog.laidByTextLater [("sluicegate/caps.pairs", Rows.laid_sluicegate_caps_pairs), ("sluicegate/caps.capNames", Rows.laid_sluicegate_caps_capNames), ("sluicegate/caps.statusNames", Rows.laid_sluicegate_caps_statusNames)] [.data, .data, .data] true :=
  Program.laidByTextLater_by_one 27 8 33 (by kernel_rfl) (by kernel_rfl) (by kernel_rfl) (by kernel_rfl) (by kernel_rfl) (by kernel_rfl) (fun _ _ => by kernel_rfl)
theorem noOwnUnsafe : Tryd.pinned.checked.prog.headLifts.contains "ownunsafe" = false := by kernel_rfl
theorem tie : Tryd.prog.laidByTextLater [("sluicegate/caps.pairs", Rows.laid_sluicegate_caps_pairs), ("sluicegate/caps.capNames", Rows.laid_sluicegate_caps_capNames), ("sluicegate/caps.statusNames", Rows.laid_sluicegate_caps_statusNames)] [.data, .data, .data] true :=
  Program.laidByTextLater.sub seatTie1 ["sluicegate/caps.pairs", "sluicegate/caps.capNames", "sluicegate/caps.statusNames"] (by kernel_rfl) (by kernel_rfl)
theorem capsNames_row_tie : Rows.capsNamesRow.laidByTextAt .later Tryd.pinned [.data, .data, .data] true :=
  OpenClaim.laidByTextAt_later rfl rfl tie noOwnUnsafe
theorem capsCalls_row_tie : Rows.capsCallsRow.laidByTextAt .later Tryd.pinned [.data, .data, .data] true :=
  OpenClaim.laidByTextAt_later rfl rfl tie noOwnUnsafe
theorem tie2 : Tryd.prog.laidByTextLater [("sluicegate/caps.pairs", Rows.laid_sluicegate_caps_pairs), ("sluicegate/caps.capNames", Rows.laid_sluicegate_caps_capNames)] [.data, .data] true :=
  Program.laidByTextLater.sub seatTie1 ["sluicegate/caps.pairs", "sluicegate/caps.capNames"] (by kernel_rfl) (by kernel_rfl)
theorem capsBoth_row_tie : Rows.capsBothRow.laidByTextAt .later Tryd.pinned [.data, .data] true :=
  OpenClaim.laidByTextAt_later rfl rfl tie2 noOwnUnsafe
theorem capsBack_row_tie : Rows.capsBackRow.laidByTextAt .later Tryd.pinned [.data, .data] true :=
  OpenClaim.laidByTextAt_later rfl rfl tie2 noOwnUnsafe
theorem capsNamesUpto_row_tie : Rows.capsNamesUptoRow.laidByTextAt .later Tryd.pinned [.data, .data, .data] true :=
  OpenClaim.laidByTextAt_later rfl rfl tie noOwnUnsafe
theorem capsCallsUpto_row_tie : Rows.capsCallsUptoRow.laidByTextAt .later Tryd.pinned [.data, .data, .data] true :=
  OpenClaim.laidByTextAt_later rfl rfl tie noOwnUnsafe
theorem capsBothUpto_row_tie : Rows.capsBothUptoRow.laidByTextAt .later Tryd.pinned [.data, .data] true :=
  OpenClaim.laidByTextAt_later rfl rfl tie2 noOwnUnsafe
theorem capsBackUpto_row_tie : Rows.capsBackUptoRow.laidByTextAt .later Tryd.pinned [.data, .data] true :=
  OpenClaim.laidByTextAt_later rfl rfl tie2 noOwnUnsafe
end Go.Proofs.YtnoabdafmgmenaaDoor
