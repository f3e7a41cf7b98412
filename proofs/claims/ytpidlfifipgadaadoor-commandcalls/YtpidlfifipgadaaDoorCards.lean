/-
  DERIVED. GIVEN WITH THE SEED: THE CARDS: each row of YtpidlfifipgadaaDoorRows.lean that lists a variable, with what it lists TIED to the program's text (the seventh form; the later family's looks); each row that meets fmt, with fmt's text TOLD by the authors' own Lean function (tested against real Go, not proved from fmt's source: count such statements apart). THE CARD IS WHAT COUNTS. Prove the row's statement (the work); the ties are given (YtpidlfifipgadaaDoorTie.lean); close each card by the builder's one call (the guide's Derived/Test/ToyasCard.lean, 'card_holds'). Laid BY PROGRAM, IN A SANDBOX (cutbox-door.mjs). By AI agents, Wed Nov 11 2026. No macro, syntax, notation, axiom, sorry.
-/
import Derived.Test.YtpidlfifipgadaaDoorRows
import GoSem.ClaimSeven
namespace Go.Proofs.YtpidlfifipgadaaDoor
namespace Rows

/-- THE TIED CARD OF 'sluicegatelaw13.CommandNames'. -/
def commandNamesCard : Claim7 := { stood := { row := commandNamesRow, standIns := [], harness := (true, "5d0b25c8854ae23be3b3927b3babca41478711d4ec5b45f289d379b5f2982912"), looks := false }, kinds := [], alts := [], laidByText := true, laidKinds := [.data, .data, .data], laidTests := true, laidLooks := .later }
def CommandNamesCardSaid : Prop := Claim7.holds Tryd.pinned (.plain (OpenSpec.ofChange commandNamesSpec)) commandNamesCard

/-- THE TIED CARD OF 'sluicegatelaw13.CommandCalls'. -/
def commandCallsCard : Claim7 := { stood := { row := commandCallsRow, standIns := [], harness := (true, "5d0b25c8854ae23be3b3927b3babca41478711d4ec5b45f289d379b5f2982912"), looks := false }, kinds := [], alts := [], laidByText := true, laidKinds := [.data, .data, .data], laidTests := true, laidLooks := .later }
def CommandCallsCardSaid : Prop := Claim7.holds Tryd.pinned (.plain (OpenSpec.ofChange commandCallsSpec)) commandCallsCard

/-- THE SECOND FORM's CARD OF 'sluicegatelaw13.CommandNames'. -/
def commandNamesUptoCard : Claim7 := { stood := { row := commandNamesUptoRow, standIns := [], harness := (true, "5d0b25c8854ae23be3b3927b3babca41478711d4ec5b45f289d379b5f2982912"), looks := false }, kinds := [], alts := [], laidByText := true, laidKinds := [.data, .data, .data], laidTests := true, laidLooks := .later }
def CommandNamesUptoCardSaid : Prop := Claim7.holds Tryd.pinned (.plain (OpenSpec.upto commandNamesSpec)) commandNamesUptoCard

/-- THE SECOND FORM's CARD OF 'sluicegatelaw13.CommandCalls'. -/
def commandCallsUptoCard : Claim7 := { stood := { row := commandCallsUptoRow, standIns := [], harness := (true, "5d0b25c8854ae23be3b3927b3babca41478711d4ec5b45f289d379b5f2982912"), looks := false }, kinds := [], alts := [], laidByText := true, laidKinds := [.data, .data, .data], laidTests := true, laidLooks := .later }
def CommandCallsUptoCardSaid : Prop := Claim7.holds Tryd.pinned (.plain (OpenSpec.upto commandCallsSpec)) commandCallsUptoCard
end Rows
end Go.Proofs.YtpidlfifipgadaaDoor
