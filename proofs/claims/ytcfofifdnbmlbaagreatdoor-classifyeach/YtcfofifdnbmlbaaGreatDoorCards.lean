/-
  DERIVED. GIVEN WITH THE SEED: THE CARDS: each row of YtcfofifdnbmlbaaGreatDoorRows.lean that lists a variable, with what it lists TIED to the program's text (the seventh form; the later family's looks); each row that meets fmt, with fmt's text TOLD by the authors' own Lean function (tested against real Go, not proved from fmt's source: count such statements apart). THE CARD IS WHAT COUNTS. Prove the row's statement (the work); the ties are given (YtcfofifdnbmlbaaGreatDoorTie.lean); close each card by the builder's one call (the guide's Derived/Test/ToyasCard.lean, 'card_holds'). Laid BY PROGRAM, IN A SANDBOX (cutbox-door.mjs). By AI agents, Wed Nov 11 2026. No macro, syntax, notation, axiom, sorry.
-/
import Derived.Test.YtcfofifdnbmlbaaGreatDoorRows
import GoSem.ClaimSeven
namespace Go.Proofs.YtcfofifdnbmlbaaGreatDoor
namespace Rows

/-- THE TIED CARD OF 'sluicegatelaw20.ClassifyEach'. -/
def classifyEachCard : Claim7 := { stood := { row := classifyEachRow, standIns := [], harness := (true, "9d926b1cd9edc7ad5781ebffee894e86da35df7688fb19e9efed579e7b4a800a"), looks := false }, kinds := [], alts := [], laidByText := true, laidKinds := [.data, .pinned], laidTests := true, laidLooks := .later }
def ClassifyEachCardSaid : Prop := Claim7.holds Tryz.pinned (.plain (OpenSpec.ofChange classifyEachSpec)) classifyEachCard

/-- THE SECOND FORM's CARD OF 'sluicegatelaw20.ClassifyEach'. -/
def classifyEachUptoCard : Claim7 := { stood := { row := classifyEachUptoRow, standIns := [], harness := (true, "9d926b1cd9edc7ad5781ebffee894e86da35df7688fb19e9efed579e7b4a800a"), looks := false }, kinds := [], alts := [], laidByText := true, laidKinds := [.data, .pinned], laidTests := true, laidLooks := .later }
def ClassifyEachUptoCardSaid : Prop := Claim7.holds Tryz.pinned (.plain (OpenSpec.upto classifyEachSpec)) classifyEachUptoCard
end Rows
end Go.Proofs.YtcfofifdnbmlbaaGreatDoor
