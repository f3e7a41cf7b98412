/-
  DERIVED. GIVEN WITH THE SEED: THE CARDS: each row of YtcjhgpgdhbbgbaaDoorRows.lean that lists a variable, with what it lists TIED to the program's text (the seventh form; the later family's looks); each row that meets fmt, with fmt's text TOLD by the authors' own Lean function (tested against real Go, not proved from fmt's source: count such statements apart). THE CARD IS WHAT COUNTS. Prove the row's statement (the work); the ties are given (YtcjhgpgdhbbgbaaDoorTie.lean); close each card by the builder's one call (the guide's Derived/Test/ToyasCard.lean, 'card_holds'). Laid BY PROGRAM, IN A SANDBOX (cutbox-door.mjs). By AI agents, Wed Nov 11 2026. No macro, syntax, notation, axiom, sorry.
-/
import Derived.Test.YtcjhgpgdhbbgbaaDoorRows
import GoSem.ClaimSeven
namespace Go.Proofs.YtcjhgpgdhbbgbaaDoor
namespace Rows

/-- THE TIED CARD OF 'sluicegatelaw07.ShaNames'. -/
def shaNamesCard : Claim7 := { stood := { row := shaNamesRow, standIns := [], harness := (true, "7cb03ef18bd3c03040dc20c877e550a25374c12651eceeeadb6d453eff61d15f"), looks := false }, kinds := [], alts := [], laidByText := true, laidKinds := [.data], laidTests := true, laidLooks := .later }
def ShaNamesCardSaid : Prop := Claim7.holds Tryd.pinned (.plain (OpenSpec.ofChange shaNamesSpec)) shaNamesCard

/-- THE TIED CARD OF 'sluicegatelaw07.ShaCalls'. -/
def shaCallsCard : Claim7 := { stood := { row := shaCallsRow, standIns := [], harness := (true, "7cb03ef18bd3c03040dc20c877e550a25374c12651eceeeadb6d453eff61d15f"), looks := false }, kinds := [], alts := [], laidByText := true, laidKinds := [.data], laidTests := true, laidLooks := .later }
def ShaCallsCardSaid : Prop := Claim7.holds Tryd.pinned (.plain (OpenSpec.ofChange shaCallsSpec)) shaCallsCard

/-- THE TIED CARD OF 'sluicegatelaw07.ShaPieces'. -/
def shaPiecesCard : Claim7 := { stood := { row := shaPiecesRow, standIns := [], harness := (true, "7cb03ef18bd3c03040dc20c877e550a25374c12651eceeeadb6d453eff61d15f"), looks := false }, kinds := [], alts := [], laidByText := true, laidKinds := [.data], laidTests := true, laidLooks := .later }
def ShaPiecesCardSaid : Prop := Claim7.holds Tryd.pinned (.plain (OpenSpec.ofChange shaPiecesSpec)) shaPiecesCard

/-- THE TIED CARD OF 'sluicegatelaw07.ShaNil'. -/
def shaNilCard : Claim7 := { stood := { row := shaNilRow, standIns := [], harness := (true, "7cb03ef18bd3c03040dc20c877e550a25374c12651eceeeadb6d453eff61d15f"), looks := false }, kinds := [], alts := [], laidByText := true, laidKinds := [.data], laidTests := true, laidLooks := .later }
def ShaNilCardSaid : Prop := Claim7.holds Tryd.pinned (.plain (OpenSpec.ofChange shaNilSpec)) shaNilCard

/-- THE SECOND FORM's CARD OF 'sluicegatelaw07.ShaNames'. -/
def shaNamesUptoCard : Claim7 := { stood := { row := shaNamesUptoRow, standIns := [], harness := (true, "7cb03ef18bd3c03040dc20c877e550a25374c12651eceeeadb6d453eff61d15f"), looks := false }, kinds := [], alts := [], laidByText := true, laidKinds := [.data], laidTests := true, laidLooks := .later }
def ShaNamesUptoCardSaid : Prop := Claim7.holds Tryd.pinned (.plain (OpenSpec.upto shaNamesSpec)) shaNamesUptoCard

/-- THE SECOND FORM's CARD OF 'sluicegatelaw07.ShaCalls'. -/
def shaCallsUptoCard : Claim7 := { stood := { row := shaCallsUptoRow, standIns := [], harness := (true, "7cb03ef18bd3c03040dc20c877e550a25374c12651eceeeadb6d453eff61d15f"), looks := false }, kinds := [], alts := [], laidByText := true, laidKinds := [.data], laidTests := true, laidLooks := .later }
def ShaCallsUptoCardSaid : Prop := Claim7.holds Tryd.pinned (.plain (OpenSpec.upto shaCallsSpec)) shaCallsUptoCard

/-- THE SECOND FORM's CARD OF 'sluicegatelaw07.ShaPieces'. -/
def shaPiecesUptoCard : Claim7 := { stood := { row := shaPiecesUptoRow, standIns := [], harness := (true, "7cb03ef18bd3c03040dc20c877e550a25374c12651eceeeadb6d453eff61d15f"), looks := false }, kinds := [], alts := [], laidByText := true, laidKinds := [.data], laidTests := true, laidLooks := .later }
def ShaPiecesUptoCardSaid : Prop := Claim7.holds Tryd.pinned (.plain (OpenSpec.upto shaPiecesSpec)) shaPiecesUptoCard

/-- THE SECOND FORM's CARD OF 'sluicegatelaw07.ShaNil'. -/
def shaNilUptoCard : Claim7 := { stood := { row := shaNilUptoRow, standIns := [], harness := (true, "7cb03ef18bd3c03040dc20c877e550a25374c12651eceeeadb6d453eff61d15f"), looks := false }, kinds := [], alts := [], laidByText := true, laidKinds := [.data], laidTests := true, laidLooks := .later }
def ShaNilUptoCardSaid : Prop := Claim7.holds Tryd.pinned (.plain (OpenSpec.upto shaNilSpec)) shaNilUptoCard
end Rows
end Go.Proofs.YtcjhgpgdhbbgbaaDoor
