/-
  DERIVED. GIVEN WITH THE SEED: THE CARDS: each row of YtgdjeooiimjjcaaDoorRows.lean that lists a variable, with what it lists TIED to the program's text (the seventh form; the later family's looks); each row that meets fmt, with fmt's text TOLD by the authors' own Lean function (tested against real Go, not proved from fmt's source: count such statements apart). THE CARD IS WHAT COUNTS. Prove the row's statement (the work); the ties are given (YtgdjeooiimjjcaaDoorTie.lean); close each card by the builder's one call (the guide's Derived/Test/ToyasCard.lean, 'card_holds'). Laid BY PROGRAM, IN A SANDBOX (cutbox-door.mjs). By AI agents, Wed Nov 11 2026. No macro, syntax, notation, axiom, sorry.
-/
import Derived.Test.YtgdjeooiimjjcaaDoorRows
import GoSem.ClaimSeven
namespace Go.Proofs.YtgdjeooiimjjcaaDoor
namespace Rows

/-- THE TIED CARD OF 'sluicegatelaw15.ColumnNames'. -/
def columnNamesCard : Claim7 := { stood := { row := columnNamesRow, standIns := [], harness := (true, "d2c85857a322ad86d41cc3f863bd3321f98d16baf9ecb8600dfca52b7719a00b"), looks := false }, kinds := [], alts := [], laidByText := true, laidKinds := [.data, .data, .data], laidTests := true, laidLooks := .later }
def ColumnNamesCardSaid : Prop := Claim7.holds Tryd.pinned (.plain (OpenSpec.ofChange columnNamesSpec)) columnNamesCard

/-- THE TIED CARD OF 'sluicegatelaw15.ColumnCalls'. -/
def columnCallsCard : Claim7 := { stood := { row := columnCallsRow, standIns := [], harness := (true, "d2c85857a322ad86d41cc3f863bd3321f98d16baf9ecb8600dfca52b7719a00b"), looks := false }, kinds := [], alts := [], laidByText := true, laidKinds := [.data, .data, .data], laidTests := true, laidLooks := .later }
def ColumnCallsCardSaid : Prop := Claim7.holds Tryd.pinned (.plain (OpenSpec.ofChange columnCallsSpec)) columnCallsCard

/-- THE TIED CARD OF 'sluicegatelaw15.ColumnApart'. -/
def columnApartCard : Claim7 := { stood := { row := columnApartRow, standIns := [], harness := (true, "d2c85857a322ad86d41cc3f863bd3321f98d16baf9ecb8600dfca52b7719a00b"), looks := false }, kinds := [], alts := [], laidByText := true, laidKinds := [.data, .data, .data], laidTests := true, laidLooks := .later }
def ColumnApartCardSaid : Prop := Claim7.holds Tryd.pinned (.plain (OpenSpec.ofChange columnApartSpec)) columnApartCard

/-- THE SECOND FORM's CARD OF 'sluicegatelaw15.ColumnNames'. -/
def columnNamesUptoCard : Claim7 := { stood := { row := columnNamesUptoRow, standIns := [], harness := (true, "d2c85857a322ad86d41cc3f863bd3321f98d16baf9ecb8600dfca52b7719a00b"), looks := false }, kinds := [], alts := [], laidByText := true, laidKinds := [.data, .data, .data], laidTests := true, laidLooks := .later }
def ColumnNamesUptoCardSaid : Prop := Claim7.holds Tryd.pinned (.plain (OpenSpec.upto columnNamesSpec)) columnNamesUptoCard

/-- THE SECOND FORM's CARD OF 'sluicegatelaw15.ColumnCalls'. -/
def columnCallsUptoCard : Claim7 := { stood := { row := columnCallsUptoRow, standIns := [], harness := (true, "d2c85857a322ad86d41cc3f863bd3321f98d16baf9ecb8600dfca52b7719a00b"), looks := false }, kinds := [], alts := [], laidByText := true, laidKinds := [.data, .data, .data], laidTests := true, laidLooks := .later }
def ColumnCallsUptoCardSaid : Prop := Claim7.holds Tryd.pinned (.plain (OpenSpec.upto columnCallsSpec)) columnCallsUptoCard

/-- THE SECOND FORM's CARD OF 'sluicegatelaw15.ColumnApart'. -/
def columnApartUptoCard : Claim7 := { stood := { row := columnApartUptoRow, standIns := [], harness := (true, "d2c85857a322ad86d41cc3f863bd3321f98d16baf9ecb8600dfca52b7719a00b"), looks := false }, kinds := [], alts := [], laidByText := true, laidKinds := [.data, .data, .data], laidTests := true, laidLooks := .later }
def ColumnApartUptoCardSaid : Prop := Claim7.holds Tryd.pinned (.plain (OpenSpec.upto columnApartSpec)) columnApartUptoCard
end Rows
end Go.Proofs.YtgdjeooiimjjcaaDoor
