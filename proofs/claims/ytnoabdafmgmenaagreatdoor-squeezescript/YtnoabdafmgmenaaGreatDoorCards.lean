/-
  DERIVED. GIVEN WITH THE SEED: THE CARDS: each row of YtnoabdafmgmenaaGreatDoorRows.lean that lists a variable, with what it lists TIED to the program's text (the seventh form; the later family's looks); each row that meets fmt, with fmt's text TOLD by the authors' own Lean function (tested against real Go, not proved from fmt's source: count such statements apart). THE CARD IS WHAT COUNTS. Prove the row's statement (the work); the ties are given (YtnoabdafmgmenaaGreatDoorTie.lean); close each card by the builder's one call (the guide's Derived/Test/ToyasCard.lean, 'card_holds'). Laid BY PROGRAM, IN A SANDBOX (cutbox-door.mjs). By AI agents, Wed Nov 11 2026. No macro, syntax, notation, axiom, sorry.
-/
import Derived.Test.YtnoabdafmgmenaaGreatDoorRows
import GoSem.ClaimSeven
namespace Go.Proofs.YtnoabdafmgmenaaGreatDoor
namespace Rows

/-- THE TIED CARD OF 'sluicegatelaw10.SqueezeScript'. -/
def squeezeScriptCard : Claim7 := { stood := { row := squeezeScriptRow, standIns := [], harness := (true, "c2aec64624f3b4eeecc822784bf43fc83569670bf963ca153b5b31edb37de74b"), looks := false }, kinds := [], alts := [], laidByText := true, laidKinds := [.data, .data, .data], laidTests := true, laidLooks := .later }
def SqueezeScriptCardSaid : Prop := Claim7.holds Tryz.pinned (.plain (OpenSpec.ofChange squeezeScriptSpec)) squeezeScriptCard

/-- THE SECOND FORM's CARD OF 'sluicegatelaw10.SqueezeScript'. -/
def squeezeScriptUptoCard : Claim7 := { stood := { row := squeezeScriptUptoRow, standIns := [], harness := (true, "c2aec64624f3b4eeecc822784bf43fc83569670bf963ca153b5b31edb37de74b"), looks := false }, kinds := [], alts := [], laidByText := true, laidKinds := [.data, .data, .data], laidTests := true, laidLooks := .later }
def SqueezeScriptUptoCardSaid : Prop := Claim7.holds Tryz.pinned (.plain (OpenSpec.upto squeezeScriptSpec)) squeezeScriptUptoCard
end Rows
end Go.Proofs.YtnoabdafmgmenaaGreatDoor
