/-
  DERIVED. GIVEN WITH THE SEED: THE CARDS: each row of YtmlodlmmfkpibaaDoorRows.lean that lists a variable, with what it lists TIED to the program's text (the seventh form; the later family's looks); each row that meets fmt, with fmt's text TOLD by the authors' own Lean function (tested against real Go, not proved from fmt's source: count such statements apart). THE CARD IS WHAT COUNTS. Prove the row's statement (the work); the ties are given (YtmlodlmmfkpibaaDoorTie.lean); close each card by the builder's one call (the guide's Derived/Test/ToyasCard.lean, 'card_holds'). Laid BY PROGRAM, IN A SANDBOX (cutbox-door.mjs). By AI agents, Wed Nov 11 2026. No macro, syntax, notation, axiom, sorry.
-/
import Derived.Test.YtmlodlmmfkpibaaDoorRows
import GoSem.ClaimSeven
namespace Go.Proofs.YtmlodlmmfkpibaaDoor
namespace Rows

/-- THE TIED CARD OF 'sluicegatelaw05.DeflateBack'. -/
def deflateBackCard : Claim7 := { stood := { row := deflateBackRow, standIns := [], harness := (true, "23b7ac636b45f3f3fd9e3eddb612aea7c7761ca85c0f247749c5bf9cca90075a"), looks := false }, kinds := [], alts := [], laidByText := true, laidKinds := [.data, .data, .data], laidTests := true, laidLooks := .later }
def DeflateBackCardSaid : Prop := Claim7.holds Tryd.pinned (.plain (OpenSpec.ofChange deflateBackSpec)) deflateBackCard

/-- THE TIED CARD OF 'sluicegatelaw05.DeflateAny'. -/
def deflateAnyCard : Claim7 := { stood := { row := deflateAnyRow, standIns := [], harness := (true, "23b7ac636b45f3f3fd9e3eddb612aea7c7761ca85c0f247749c5bf9cca90075a"), looks := false }, kinds := [], alts := [], laidByText := true, laidKinds := [.data, .data, .data], laidTests := true, laidLooks := .later }
def DeflateAnyCardSaid : Prop := Claim7.holds Tryd.pinned (.plain (OpenSpec.ofChange deflateAnySpec)) deflateAnyCard

/-- THE SECOND FORM's CARD OF 'sluicegatelaw05.DeflateBack'. -/
def deflateBackUptoCard : Claim7 := { stood := { row := deflateBackUptoRow, standIns := [], harness := (true, "23b7ac636b45f3f3fd9e3eddb612aea7c7761ca85c0f247749c5bf9cca90075a"), looks := false }, kinds := [], alts := [], laidByText := true, laidKinds := [.data, .data, .data], laidTests := true, laidLooks := .later }
def DeflateBackUptoCardSaid : Prop := Claim7.holds Tryd.pinned (.plain (OpenSpec.upto deflateBackSpec)) deflateBackUptoCard

/-- THE SECOND FORM's CARD OF 'sluicegatelaw05.DeflateAny'. -/
def deflateAnyUptoCard : Claim7 := { stood := { row := deflateAnyUptoRow, standIns := [], harness := (true, "23b7ac636b45f3f3fd9e3eddb612aea7c7761ca85c0f247749c5bf9cca90075a"), looks := false }, kinds := [], alts := [], laidByText := true, laidKinds := [.data, .data, .data], laidTests := true, laidLooks := .later }
def DeflateAnyUptoCardSaid : Prop := Claim7.holds Tryd.pinned (.plain (OpenSpec.upto deflateAnySpec)) deflateAnyUptoCard
end Rows
end Go.Proofs.YtmlodlmmfkpibaaDoor
