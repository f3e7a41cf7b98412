/-
  DERIVED. GIVEN WITH THE SEED: THE CARDS: each row of YtaboepnginbjfaaGreatDoorRows.lean that lists a variable, with what it lists TIED to the program's text (the seventh form; the later family's looks); each row that meets fmt, with fmt's text TOLD by the authors' own Lean function (tested against real Go, not proved from fmt's source: count such statements apart). THE CARD IS WHAT COUNTS. Prove the row's statement (the work); the ties are given (YtaboepnginbjfaaGreatDoorTie.lean); close each card by the builder's one call (the guide's Derived/Test/ToyasCard.lean, 'card_holds'). Laid BY PROGRAM, IN A SANDBOX (cutbox-door.mjs). By AI agents, Wed Nov 11 2026. No macro, syntax, notation, axiom, sorry.
-/
import Derived.Test.YtaboepnginbjfaaGreatDoorRows
import GoSem.ClaimSeven
namespace Go.Proofs.YtaboepnginbjfaaGreatDoor
namespace Rows

/-- THE TIED CARD OF 'sluicegatelaw20.ClassifyAnew'. -/
def classifyAnewCard : Claim7 := { stood := { row := classifyAnewRow, standIns := [], harness := (true, "3926fd6b979bcaac7f997f2590de87e26b186a77377377c460c945af6411d5f4"), looks := false }, kinds := [], alts := [], laidByText := true, laidKinds := [.data, .pinned], laidTests := true, laidLooks := .later }
def ClassifyAnewCardSaid : Prop := Claim7.holds Tryz.pinned (.plain (OpenSpec.ofChange classifyAnewSpec)) classifyAnewCard

/-- THE SECOND FORM's CARD OF 'sluicegatelaw20.ClassifyAnew'. -/
def classifyAnewUptoCard : Claim7 := { stood := { row := classifyAnewUptoRow, standIns := [], harness := (true, "3926fd6b979bcaac7f997f2590de87e26b186a77377377c460c945af6411d5f4"), looks := false }, kinds := [], alts := [], laidByText := true, laidKinds := [.data, .pinned], laidTests := true, laidLooks := .later }
def ClassifyAnewUptoCardSaid : Prop := Claim7.holds Tryz.pinned (.plain (OpenSpec.upto classifyAnewSpec)) classifyAnewUptoCard
end Rows
end Go.Proofs.YtaboepnginbjfaaGreatDoor
