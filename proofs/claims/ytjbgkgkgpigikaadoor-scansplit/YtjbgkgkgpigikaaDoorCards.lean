/-
  DERIVED. GIVEN WITH THE SEED: THE CARDS: each row of YtjbgkgkgpigikaaDoorRows.lean that lists a variable, with what it lists TIED to the program's text (the seventh form; the later family's looks); each row that meets fmt, with fmt's text TOLD by the authors' own Lean function (tested against real Go, not proved from fmt's source: count such statements apart). THE CARD IS WHAT COUNTS. Prove the row's statement (the work); the ties are given (YtjbgkgkgpigikaaDoorTie.lean); close each card by the builder's one call (the guide's Derived/Test/ToyasCard.lean, 'card_holds'). Laid BY PROGRAM, IN A SANDBOX (cutbox-door.mjs). By AI agents, Wed Nov 11 2026. No macro, syntax, notation, axiom, sorry.
-/
import Derived.Test.YtjbgkgkgpigikaaDoorRows
import GoSem.ClaimSeven
namespace Go.Proofs.YtjbgkgkgpigikaaDoor
namespace Rows

/-- THE TIED CARD OF 'sluicegatelaw19.ScanSplit'. -/
def scanSplitCard : Claim7 := { stood := { row := scanSplitRow, standIns := [], harness := (true, "ed3c6c7a3a246014734ddb4469a39dba3f3e4d586169f6284946c1ceffb8d5bd"), looks := false }, kinds := [], alts := [], laidByText := true, laidKinds := [.data, .pinned], laidTests := true, laidLooks := .later }
def ScanSplitCardSaid : Prop := Claim7.holds Tryd.pinned (.plain (OpenSpec.ofChange scanSplitSpec)) scanSplitCard

/-- THE SECOND FORM's CARD OF 'sluicegatelaw19.ScanSplit'. -/
def scanSplitUptoCard : Claim7 := { stood := { row := scanSplitUptoRow, standIns := [], harness := (true, "ed3c6c7a3a246014734ddb4469a39dba3f3e4d586169f6284946c1ceffb8d5bd"), looks := false }, kinds := [], alts := [], laidByText := true, laidKinds := [.data, .pinned], laidTests := true, laidLooks := .later }
def ScanSplitUptoCardSaid : Prop := Claim7.holds Tryd.pinned (.plain (OpenSpec.upto scanSplitSpec)) scanSplitUptoCard
end Rows
end Go.Proofs.YtjbgkgkgpigikaaDoor
