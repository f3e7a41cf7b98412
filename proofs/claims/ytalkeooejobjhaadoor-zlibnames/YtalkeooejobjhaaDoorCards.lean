/-
  DERIVED. GIVEN WITH THE SEED: THE CARDS: each row of YtalkeooejobjhaaDoorRows.lean that lists a variable, with what it lists TIED to the program's text (the seventh form; the later family's looks); each row that meets fmt, with fmt's text TOLD by the authors' own Lean function (tested against real Go, not proved from fmt's source: count such statements apart). THE CARD IS WHAT COUNTS. Prove the row's statement (the work); the ties are given (YtalkeooejobjhaaDoorTie.lean); close each card by the builder's one call (the guide's Derived/Test/ToyasCard.lean, 'card_holds'). Laid BY PROGRAM, IN A SANDBOX (cutbox-door.mjs). By AI agents, Wed Nov 11 2026. No macro, syntax, notation, axiom, sorry.
-/
import Derived.Test.YtalkeooejobjhaaDoorRows
import GoSem.ClaimSeven
namespace Go.Proofs.YtalkeooejobjhaaDoor
namespace Rows

/-- THE TIED CARD OF 'sluicegatelaw06.ZlibNames'. -/
def zlibNamesCard : Claim7 := { stood := { row := zlibNamesRow, standIns := [], harness := (true, "6a4c063100cd78d6e3c383bec4ea0e8b04ca879102a5d445048414c2ba4c6392"), looks := false }, kinds := [], alts := [], laidByText := true, laidKinds := [.data, .data, .data], laidTests := true, laidLooks := .later }
def ZlibNamesCardSaid : Prop := Claim7.holds Tryd.pinned (.plain (OpenSpec.ofChange zlibNamesSpec)) zlibNamesCard

/-- THE TIED CARD OF 'sluicegatelaw06.ZlibBack'. -/
def zlibBackCard : Claim7 := { stood := { row := zlibBackRow, standIns := [], harness := (true, "6a4c063100cd78d6e3c383bec4ea0e8b04ca879102a5d445048414c2ba4c6392"), looks := false }, kinds := [], alts := [], laidByText := true, laidKinds := [.data, .data, .data], laidTests := true, laidLooks := .later }
def ZlibBackCardSaid : Prop := Claim7.holds Tryd.pinned (.plain (OpenSpec.ofChange zlibBackSpec)) zlibBackCard

/-- THE TIED CARD OF 'sluicegatelaw06.ZlibTurned'. -/
def zlibTurnedCard : Claim7 := { stood := { row := zlibTurnedRow, standIns := [], harness := (true, "6a4c063100cd78d6e3c383bec4ea0e8b04ca879102a5d445048414c2ba4c6392"), looks := false }, kinds := [], alts := [], laidByText := true, laidKinds := [.data, .data, .data], laidTests := true, laidLooks := .later }
def ZlibTurnedCardSaid : Prop := Claim7.holds Tryd.pinned (.plain (OpenSpec.ofChange zlibTurnedSpec)) zlibTurnedCard

/-- THE TIED CARD OF 'sluicegatelaw06.ZlibWhole'. -/
def zlibWholeCard : Claim7 := { stood := { row := zlibWholeRow, standIns := [], harness := (true, "6a4c063100cd78d6e3c383bec4ea0e8b04ca879102a5d445048414c2ba4c6392"), looks := false }, kinds := [], alts := [], laidByText := true, laidKinds := [.data, .data, .data], laidTests := true, laidLooks := .later }
def ZlibWholeCardSaid : Prop := Claim7.holds Tryd.pinned (.plain (OpenSpec.ofChange zlibWholeSpec)) zlibWholeCard

/-- THE SECOND FORM's CARD OF 'sluicegatelaw06.ZlibNames'. -/
def zlibNamesUptoCard : Claim7 := { stood := { row := zlibNamesUptoRow, standIns := [], harness := (true, "6a4c063100cd78d6e3c383bec4ea0e8b04ca879102a5d445048414c2ba4c6392"), looks := false }, kinds := [], alts := [], laidByText := true, laidKinds := [.data, .data, .data], laidTests := true, laidLooks := .later }
def ZlibNamesUptoCardSaid : Prop := Claim7.holds Tryd.pinned (.plain (OpenSpec.upto zlibNamesSpec)) zlibNamesUptoCard

/-- THE SECOND FORM's CARD OF 'sluicegatelaw06.ZlibBack'. -/
def zlibBackUptoCard : Claim7 := { stood := { row := zlibBackUptoRow, standIns := [], harness := (true, "6a4c063100cd78d6e3c383bec4ea0e8b04ca879102a5d445048414c2ba4c6392"), looks := false }, kinds := [], alts := [], laidByText := true, laidKinds := [.data, .data, .data], laidTests := true, laidLooks := .later }
def ZlibBackUptoCardSaid : Prop := Claim7.holds Tryd.pinned (.plain (OpenSpec.upto zlibBackSpec)) zlibBackUptoCard

/-- THE SECOND FORM's CARD OF 'sluicegatelaw06.ZlibTurned'. -/
def zlibTurnedUptoCard : Claim7 := { stood := { row := zlibTurnedUptoRow, standIns := [], harness := (true, "6a4c063100cd78d6e3c383bec4ea0e8b04ca879102a5d445048414c2ba4c6392"), looks := false }, kinds := [], alts := [], laidByText := true, laidKinds := [.data, .data, .data], laidTests := true, laidLooks := .later }
def ZlibTurnedUptoCardSaid : Prop := Claim7.holds Tryd.pinned (.plain (OpenSpec.upto zlibTurnedSpec)) zlibTurnedUptoCard

/-- THE SECOND FORM's CARD OF 'sluicegatelaw06.ZlibWhole'. -/
def zlibWholeUptoCard : Claim7 := { stood := { row := zlibWholeUptoRow, standIns := [], harness := (true, "6a4c063100cd78d6e3c383bec4ea0e8b04ca879102a5d445048414c2ba4c6392"), looks := false }, kinds := [], alts := [], laidByText := true, laidKinds := [.data, .data, .data], laidTests := true, laidLooks := .later }
def ZlibWholeUptoCardSaid : Prop := Claim7.holds Tryd.pinned (.plain (OpenSpec.upto zlibWholeSpec)) zlibWholeUptoCard
end Rows
end Go.Proofs.YtalkeooejobjhaaDoor
