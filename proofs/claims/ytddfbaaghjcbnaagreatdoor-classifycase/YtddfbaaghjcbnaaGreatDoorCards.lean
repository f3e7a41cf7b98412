/-
  DERIVED. GIVEN WITH THE SEED: THE CARDS: each row of YtddfbaaghjcbnaaGreatDoorRows.lean that lists a variable, with what it lists TIED to the program's text (the seventh form; the later family's looks); each row that meets fmt, with fmt's text TOLD by the authors' own Lean function (tested against real Go, not proved from fmt's source: count such statements apart). THE CARD IS WHAT COUNTS. Prove the row's statement (the work); the ties are given (YtddfbaaghjcbnaaGreatDoorTie.lean); close each card by the builder's one call (the guide's Derived/Test/ToyasCard.lean, 'card_holds'). Laid BY PROGRAM, IN A SANDBOX (cutbox-door.mjs). By AI agents, Wed Nov 11 2026. No macro, syntax, notation, axiom, sorry.
-/
import Derived.Test.YtddfbaaghjcbnaaGreatDoorRows
import GoSem.ClaimSeven
namespace Go.Proofs.YtddfbaaghjcbnaaGreatDoor
namespace Rows

/-- THE TIED CARD OF 'sluicegatelaw20.ClassifyCase'. -/
def classifyCaseCard : Claim7 := { stood := { row := classifyCaseRow, standIns := [], harness := (true, "b422dc9bdcf6aab90b12c0d17c3725c0ad82682483c2f7fad3195b164221c412"), looks := false }, kinds := [], alts := [], laidByText := true, laidKinds := [.data, .pinned], laidTests := true, laidLooks := .later }
def ClassifyCaseCardSaid : Prop := Claim7.holds Tryz.pinned (.plain (OpenSpec.ofChange classifyCaseSpec)) classifyCaseCard

/-- THE SECOND FORM's CARD OF 'sluicegatelaw20.ClassifyCase'. -/
def classifyCaseUptoCard : Claim7 := { stood := { row := classifyCaseUptoRow, standIns := [], harness := (true, "b422dc9bdcf6aab90b12c0d17c3725c0ad82682483c2f7fad3195b164221c412"), looks := false }, kinds := [], alts := [], laidByText := true, laidKinds := [.data, .pinned], laidTests := true, laidLooks := .later }
def ClassifyCaseUptoCardSaid : Prop := Claim7.holds Tryz.pinned (.plain (OpenSpec.upto classifyCaseSpec)) classifyCaseUptoCard
end Rows
end Go.Proofs.YtddfbaaghjcbnaaGreatDoor
