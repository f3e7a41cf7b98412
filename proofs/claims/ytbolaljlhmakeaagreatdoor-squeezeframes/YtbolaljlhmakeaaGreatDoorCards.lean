/-
  DERIVED. GIVEN WITH THE SEED: THE CARDS: each row of YtbolaljlhmakeaaGreatDoorRows.lean that lists a variable, with what it lists TIED to the program's text (the seventh form; the later family's looks); each row that meets fmt, with fmt's text TOLD by the authors' own Lean function (tested against real Go, not proved from fmt's source: count such statements apart). THE CARD IS WHAT COUNTS. Prove the row's statement (the work); the ties are given (YtbolaljlhmakeaaGreatDoorTie.lean); close each card by the builder's one call (the guide's Derived/Test/ToyasCard.lean, 'card_holds'). Laid BY PROGRAM, IN A SANDBOX (cutbox-door.mjs). By AI agents, Wed Nov 11 2026. No macro, syntax, notation, axiom, sorry.
-/
import Derived.Test.YtbolaljlhmakeaaGreatDoorRows
import GoSem.ClaimSeven
namespace Go.Proofs.YtbolaljlhmakeaaGreatDoor
namespace Rows

/-- THE TIED CARD OF 'sluicegatelaw10.SqueezeScript'. -/
def squeezeScriptCard : Claim7 := { stood := { row := squeezeScriptRow, standIns := [], harness := (true, "7a90f38a3bf4deb4965873caa62419f3bfc8dff832eb8a6aa33f2a1637bbc878"), looks := false }, kinds := [], alts := [], laidByText := true, laidKinds := [.data, .data, .data], laidTests := true, laidLooks := .later }
def SqueezeScriptCardSaid : Prop := Claim7.holds Tryz.pinned (.plain (OpenSpec.ofChange squeezeScriptSpec)) squeezeScriptCard

/-- THE TIED CARD OF 'sluicegatelaw10.SqueezeFrames'. -/
def squeezeFramesCard : Claim7 := { stood := { row := squeezeFramesRow, standIns := [], harness := (true, "7a90f38a3bf4deb4965873caa62419f3bfc8dff832eb8a6aa33f2a1637bbc878"), looks := false }, kinds := [], alts := [], laidByText := true, laidKinds := [.data, .data, .data], laidTests := true, laidLooks := .later }
def SqueezeFramesCardSaid : Prop := Claim7.holds Tryz.pinned (.plain (OpenSpec.ofChange squeezeFramesSpec)) squeezeFramesCard

/-- THE SECOND FORM's CARD OF 'sluicegatelaw10.SqueezeScript'. -/
def squeezeScriptUptoCard : Claim7 := { stood := { row := squeezeScriptUptoRow, standIns := [], harness := (true, "7a90f38a3bf4deb4965873caa62419f3bfc8dff832eb8a6aa33f2a1637bbc878"), looks := false }, kinds := [], alts := [], laidByText := true, laidKinds := [.data, .data, .data], laidTests := true, laidLooks := .later }
def SqueezeScriptUptoCardSaid : Prop := Claim7.holds Tryz.pinned (.plain (OpenSpec.upto squeezeScriptSpec)) squeezeScriptUptoCard

/-- THE SECOND FORM's CARD OF 'sluicegatelaw10.SqueezeFrames'. -/
def squeezeFramesUptoCard : Claim7 := { stood := { row := squeezeFramesUptoRow, standIns := [], harness := (true, "7a90f38a3bf4deb4965873caa62419f3bfc8dff832eb8a6aa33f2a1637bbc878"), looks := false }, kinds := [], alts := [], laidByText := true, laidKinds := [.data, .data, .data], laidTests := true, laidLooks := .later }
def SqueezeFramesUptoCardSaid : Prop := Claim7.holds Tryz.pinned (.plain (OpenSpec.upto squeezeFramesSpec)) squeezeFramesUptoCard
end Rows
end Go.Proofs.YtbolaljlhmakeaaGreatDoor
