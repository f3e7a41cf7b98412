/-
  DERIVED. GIVEN WITH THE SEED: THE CARDS: each row of YtbolaljlhmakeaaDoorRows.lean that lists a variable, with what it lists TIED to the program's text (the seventh form; the later family's looks); each row that meets fmt, with fmt's text TOLD by the authors' own Lean function (tested against real Go, not proved from fmt's source: count such statements apart). THE CARD IS WHAT COUNTS. Prove the row's statement (the work); the ties are given (YtbolaljlhmakeaaDoorTie.lean); close each card by the builder's one call (the guide's Derived/Test/ToyasCard.lean, 'card_holds'). Laid BY PROGRAM, IN A SANDBOX (cutbox-door.mjs). By AI agents, Wed Nov 11 2026. No macro, syntax, notation, axiom, sorry.
-/
import Derived.Test.YtbolaljlhmakeaaDoorRows
import GoSem.ClaimSeven
namespace Go.Proofs.YtbolaljlhmakeaaDoor
namespace Rows

/-- THE TIED CARD OF 'sluicegatelaw10.SqueezeNames'. -/
def squeezeNamesCard : Claim7 := { stood := { row := squeezeNamesRow, standIns := [], harness := (true, "fb01377124e08c0c806db1b99831c2ed9f2c8cbe740498a3f509ab1de9d655f8"), looks := false }, kinds := [], alts := [], laidByText := true, laidKinds := [.data, .data, .data], laidTests := true, laidLooks := .later }
def SqueezeNamesCardSaid : Prop := Claim7.holds Tryd.pinned (.plain (OpenSpec.ofChange squeezeNamesSpec)) squeezeNamesCard

/-- THE TIED CARD OF 'sluicegatelaw10.SqueezeBack'. -/
def squeezeBackCard : Claim7 := { stood := { row := squeezeBackRow, standIns := [], harness := (true, "fb01377124e08c0c806db1b99831c2ed9f2c8cbe740498a3f509ab1de9d655f8"), looks := false }, kinds := [], alts := [], laidByText := true, laidKinds := [.data, .data, .data], laidTests := true, laidLooks := .later }
def SqueezeBackCardSaid : Prop := Claim7.holds Tryd.pinned (.plain (OpenSpec.ofChange squeezeBackSpec)) squeezeBackCard

/-- THE TIED CARD OF 'sluicegatelaw10.SqueezeNil'. -/
def squeezeNilCard : Claim7 := { stood := { row := squeezeNilRow, standIns := [], harness := (true, "fb01377124e08c0c806db1b99831c2ed9f2c8cbe740498a3f509ab1de9d655f8"), looks := false }, kinds := [], alts := [], laidByText := true, laidKinds := [.data, .data, .data], laidTests := true, laidLooks := .later }
def SqueezeNilCardSaid : Prop := Claim7.holds Tryd.pinned (.plain (OpenSpec.ofChange squeezeNilSpec)) squeezeNilCard

/-- THE SECOND FORM's CARD OF 'sluicegatelaw10.SqueezeNames'. -/
def squeezeNamesUptoCard : Claim7 := { stood := { row := squeezeNamesUptoRow, standIns := [], harness := (true, "fb01377124e08c0c806db1b99831c2ed9f2c8cbe740498a3f509ab1de9d655f8"), looks := false }, kinds := [], alts := [], laidByText := true, laidKinds := [.data, .data, .data], laidTests := true, laidLooks := .later }
def SqueezeNamesUptoCardSaid : Prop := Claim7.holds Tryd.pinned (.plain (OpenSpec.upto squeezeNamesSpec)) squeezeNamesUptoCard

/-- THE SECOND FORM's CARD OF 'sluicegatelaw10.SqueezeBack'. -/
def squeezeBackUptoCard : Claim7 := { stood := { row := squeezeBackUptoRow, standIns := [], harness := (true, "fb01377124e08c0c806db1b99831c2ed9f2c8cbe740498a3f509ab1de9d655f8"), looks := false }, kinds := [], alts := [], laidByText := true, laidKinds := [.data, .data, .data], laidTests := true, laidLooks := .later }
def SqueezeBackUptoCardSaid : Prop := Claim7.holds Tryd.pinned (.plain (OpenSpec.upto squeezeBackSpec)) squeezeBackUptoCard

/-- THE SECOND FORM's CARD OF 'sluicegatelaw10.SqueezeNil'. -/
def squeezeNilUptoCard : Claim7 := { stood := { row := squeezeNilUptoRow, standIns := [], harness := (true, "fb01377124e08c0c806db1b99831c2ed9f2c8cbe740498a3f509ab1de9d655f8"), looks := false }, kinds := [], alts := [], laidByText := true, laidKinds := [.data, .data, .data], laidTests := true, laidLooks := .later }
def SqueezeNilUptoCardSaid : Prop := Claim7.holds Tryd.pinned (.plain (OpenSpec.upto squeezeNilSpec)) squeezeNilUptoCard
end Rows
end Go.Proofs.YtbolaljlhmakeaaDoor
