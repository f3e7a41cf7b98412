/-
  DERIVED. GIVEN WITH THE SEED: THE CARDS: each row of YtgbahfadjdincaaGreatDoorRows.lean that lists a variable, with what it lists TIED to the program's text (the seventh form; the later family's looks); each row that meets fmt, with fmt's text TOLD by the authors' own Lean function (tested against real Go, not proved from fmt's source: count such statements apart). THE CARD IS WHAT COUNTS. Prove the row's statement (the work); the ties are given (YtgbahfadjdincaaGreatDoorTie.lean); close each card by the builder's one call (the guide's Derived/Test/ToyasCard.lean, 'card_holds'). Laid BY PROGRAM, IN A SANDBOX (cutbox-door.mjs). By AI agents, Wed Nov 11 2026. No macro, syntax, notation, axiom, sorry.
-/
import Derived.Test.YtgbahfadjdincaaGreatDoorRows
import GoSem.ClaimSeven
namespace Go.Proofs.YtgbahfadjdincaaGreatDoor
namespace Rows

/-- THE TIED CARD OF 'sluicegatelaw21.DigestCalls'. -/
def digestCallsCard : Claim7 := { stood := { row := digestCallsRow, standIns := [], harness := (true, "c7170cbe0ab53acb2ddeea82d0625cbc46d5e3e10824d072b229cac2dbf58c1a"), looks := false }, kinds := [], alts := [], laidByText := true, laidKinds := [.data, .data, .pinned], laidTests := true, laidLooks := .later }
def DigestCallsCardSaid : Prop := Claim7.holds Tryz.pinned (.plain (OpenSpec.ofChange digestCallsSpec)) digestCallsCard

/-- THE TIED CARD OF 'sluicegatelaw21.DigestSame'. -/
def digestSameCard : Claim7 := { stood := { row := digestSameRow, standIns := [], harness := (true, "c7170cbe0ab53acb2ddeea82d0625cbc46d5e3e10824d072b229cac2dbf58c1a"), looks := false }, kinds := [], alts := [], laidByText := true, laidKinds := [.data, .data, .pinned], laidTests := true, laidLooks := .later }
def DigestSameCardSaid : Prop := Claim7.holds Tryz.pinned (.plain (OpenSpec.ofChange digestSameSpec)) digestSameCard

/-- THE TIED CARD OF 'sluicegatelaw21.DigestHash'. -/
def digestHashCard : Claim7 := { stood := { row := digestHashRow, standIns := [], harness := (true, "c7170cbe0ab53acb2ddeea82d0625cbc46d5e3e10824d072b229cac2dbf58c1a"), looks := false }, kinds := [], alts := [], laidByText := true, laidKinds := [.data, .data, .pinned], laidTests := true, laidLooks := .later }
def DigestHashCardSaid : Prop := Claim7.holds Tryz.pinned (.plain (OpenSpec.ofChange digestHashSpec)) digestHashCard

/-- THE SECOND FORM's CARD OF 'sluicegatelaw21.DigestCalls'. -/
def digestCallsUptoCard : Claim7 := { stood := { row := digestCallsUptoRow, standIns := [], harness := (true, "c7170cbe0ab53acb2ddeea82d0625cbc46d5e3e10824d072b229cac2dbf58c1a"), looks := false }, kinds := [], alts := [], laidByText := true, laidKinds := [.data, .data, .pinned], laidTests := true, laidLooks := .later }
def DigestCallsUptoCardSaid : Prop := Claim7.holds Tryz.pinned (.plain (OpenSpec.upto digestCallsSpec)) digestCallsUptoCard

/-- THE SECOND FORM's CARD OF 'sluicegatelaw21.DigestSame'. -/
def digestSameUptoCard : Claim7 := { stood := { row := digestSameUptoRow, standIns := [], harness := (true, "c7170cbe0ab53acb2ddeea82d0625cbc46d5e3e10824d072b229cac2dbf58c1a"), looks := false }, kinds := [], alts := [], laidByText := true, laidKinds := [.data, .data, .pinned], laidTests := true, laidLooks := .later }
def DigestSameUptoCardSaid : Prop := Claim7.holds Tryz.pinned (.plain (OpenSpec.upto digestSameSpec)) digestSameUptoCard

/-- THE SECOND FORM's CARD OF 'sluicegatelaw21.DigestHash'. -/
def digestHashUptoCard : Claim7 := { stood := { row := digestHashUptoRow, standIns := [], harness := (true, "c7170cbe0ab53acb2ddeea82d0625cbc46d5e3e10824d072b229cac2dbf58c1a"), looks := false }, kinds := [], alts := [], laidByText := true, laidKinds := [.data, .data, .pinned], laidTests := true, laidLooks := .later }
def DigestHashUptoCardSaid : Prop := Claim7.holds Tryz.pinned (.plain (OpenSpec.upto digestHashSpec)) digestHashUptoCard
end Rows
end Go.Proofs.YtgbahfadjdincaaGreatDoor
