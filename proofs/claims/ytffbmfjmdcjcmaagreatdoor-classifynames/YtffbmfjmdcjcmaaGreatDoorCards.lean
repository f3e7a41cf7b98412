/-
  DERIVED. GIVEN WITH THE SEED: THE CARDS: each row of YtffbmfjmdcjcmaaGreatDoorRows.lean that lists a variable, with what it lists TIED to the program's text (the seventh form; the later family's looks); each row that meets fmt, with fmt's text TOLD by the authors' own Lean function (tested against real Go, not proved from fmt's source: count such statements apart). THE CARD IS WHAT COUNTS. Prove the row's statement (the work); the ties are given (YtffbmfjmdcjcmaaGreatDoorTie.lean); close each card by the builder's one call (the guide's Derived/Test/ToyasCard.lean, 'card_holds'). Laid BY PROGRAM, IN A SANDBOX (cutbox-door.mjs). By AI agents, Wed Nov 11 2026. No macro, syntax, notation, axiom, sorry.
-/
import Derived.Test.YtffbmfjmdcjcmaaGreatDoorRows
import GoSem.ClaimSeven
namespace Go.Proofs.YtffbmfjmdcjcmaaGreatDoor
namespace Rows

/-- THE TIED CARD OF 'sluicegatelaw20.ClassifyNames'. -/
def classifyNamesCard : Claim7 := { stood := { row := classifyNamesRow, standIns := [], harness := (true, "7f81eeffb942e953dd83c82c081e5f5d2aa558c9555c4b78191e5f3c4c926758"), looks := false }, kinds := [], alts := [], laidByText := true, laidKinds := [.data, .pinned], laidTests := true, laidLooks := .later }
def ClassifyNamesCardSaid : Prop := Claim7.holds Tryz.pinned (.plain (OpenSpec.ofChange classifyNamesSpec)) classifyNamesCard

/-- THE TIED CARD OF 'sluicegatelaw20.ClassifyCalls'. -/
def classifyCallsCard : Claim7 := { stood := { row := classifyCallsRow, standIns := [], harness := (true, "7f81eeffb942e953dd83c82c081e5f5d2aa558c9555c4b78191e5f3c4c926758"), looks := false }, kinds := [], alts := [], laidByText := true, laidKinds := [.data, .pinned], laidTests := true, laidLooks := .later }
def ClassifyCallsCardSaid : Prop := Claim7.holds Tryz.pinned (.plain (OpenSpec.ofChange classifyCallsSpec)) classifyCallsCard

/-- THE TIED CARD OF 'sluicegatelaw20.ClassifyWords'. -/
def classifyWordsCard : Claim7 := { stood := { row := classifyWordsRow, standIns := [], harness := (true, "7f81eeffb942e953dd83c82c081e5f5d2aa558c9555c4b78191e5f3c4c926758"), looks := false }, kinds := [], alts := [], laidByText := true, laidKinds := [.data, .pinned], laidTests := true, laidLooks := .later }
def ClassifyWordsCardSaid : Prop := Claim7.holds Tryz.pinned (.plain (OpenSpec.ofChange classifyWordsSpec)) classifyWordsCard

/-- THE TIED CARD OF 'sluicegatelaw20.ClassifyCase'. -/
def classifyCaseCard : Claim7 := { stood := { row := classifyCaseRow, standIns := [], harness := (true, "7f81eeffb942e953dd83c82c081e5f5d2aa558c9555c4b78191e5f3c4c926758"), looks := false }, kinds := [], alts := [], laidByText := true, laidKinds := [.data, .pinned], laidTests := true, laidLooks := .later }
def ClassifyCaseCardSaid : Prop := Claim7.holds Tryz.pinned (.plain (OpenSpec.ofChange classifyCaseSpec)) classifyCaseCard

/-- THE TIED CARD OF 'sluicegatelaw20.ClassifyAnew'. -/
def classifyAnewCard : Claim7 := { stood := { row := classifyAnewRow, standIns := [], harness := (true, "7f81eeffb942e953dd83c82c081e5f5d2aa558c9555c4b78191e5f3c4c926758"), looks := false }, kinds := [], alts := [], laidByText := true, laidKinds := [.data, .pinned], laidTests := true, laidLooks := .later }
def ClassifyAnewCardSaid : Prop := Claim7.holds Tryz.pinned (.plain (OpenSpec.ofChange classifyAnewSpec)) classifyAnewCard

/-- THE TIED CARD OF 'sluicegatelaw20.ClassifyOdd'. -/
def classifyOddCard : Claim7 := { stood := { row := classifyOddRow, standIns := [], harness := (true, "7f81eeffb942e953dd83c82c081e5f5d2aa558c9555c4b78191e5f3c4c926758"), looks := false }, kinds := [], alts := [], laidByText := true, laidKinds := [.data, .pinned], laidTests := true, laidLooks := .later }
def ClassifyOddCardSaid : Prop := Claim7.holds Tryz.pinned (.plain (OpenSpec.ofChange classifyOddSpec)) classifyOddCard

/-- THE SECOND FORM's CARD OF 'sluicegatelaw20.ClassifyNames'. -/
def classifyNamesUptoCard : Claim7 := { stood := { row := classifyNamesUptoRow, standIns := [], harness := (true, "7f81eeffb942e953dd83c82c081e5f5d2aa558c9555c4b78191e5f3c4c926758"), looks := false }, kinds := [], alts := [], laidByText := true, laidKinds := [.data, .pinned], laidTests := true, laidLooks := .later }
def ClassifyNamesUptoCardSaid : Prop := Claim7.holds Tryz.pinned (.plain (OpenSpec.upto classifyNamesSpec)) classifyNamesUptoCard

/-- THE SECOND FORM's CARD OF 'sluicegatelaw20.ClassifyCalls'. -/
def classifyCallsUptoCard : Claim7 := { stood := { row := classifyCallsUptoRow, standIns := [], harness := (true, "7f81eeffb942e953dd83c82c081e5f5d2aa558c9555c4b78191e5f3c4c926758"), looks := false }, kinds := [], alts := [], laidByText := true, laidKinds := [.data, .pinned], laidTests := true, laidLooks := .later }
def ClassifyCallsUptoCardSaid : Prop := Claim7.holds Tryz.pinned (.plain (OpenSpec.upto classifyCallsSpec)) classifyCallsUptoCard

/-- THE SECOND FORM's CARD OF 'sluicegatelaw20.ClassifyWords'. -/
def classifyWordsUptoCard : Claim7 := { stood := { row := classifyWordsUptoRow, standIns := [], harness := (true, "7f81eeffb942e953dd83c82c081e5f5d2aa558c9555c4b78191e5f3c4c926758"), looks := false }, kinds := [], alts := [], laidByText := true, laidKinds := [.data, .pinned], laidTests := true, laidLooks := .later }
def ClassifyWordsUptoCardSaid : Prop := Claim7.holds Tryz.pinned (.plain (OpenSpec.upto classifyWordsSpec)) classifyWordsUptoCard

/-- THE SECOND FORM's CARD OF 'sluicegatelaw20.ClassifyCase'. -/
def classifyCaseUptoCard : Claim7 := { stood := { row := classifyCaseUptoRow, standIns := [], harness := (true, "7f81eeffb942e953dd83c82c081e5f5d2aa558c9555c4b78191e5f3c4c926758"), looks := false }, kinds := [], alts := [], laidByText := true, laidKinds := [.data, .pinned], laidTests := true, laidLooks := .later }
def ClassifyCaseUptoCardSaid : Prop := Claim7.holds Tryz.pinned (.plain (OpenSpec.upto classifyCaseSpec)) classifyCaseUptoCard

/-- THE SECOND FORM's CARD OF 'sluicegatelaw20.ClassifyAnew'. -/
def classifyAnewUptoCard : Claim7 := { stood := { row := classifyAnewUptoRow, standIns := [], harness := (true, "7f81eeffb942e953dd83c82c081e5f5d2aa558c9555c4b78191e5f3c4c926758"), looks := false }, kinds := [], alts := [], laidByText := true, laidKinds := [.data, .pinned], laidTests := true, laidLooks := .later }
def ClassifyAnewUptoCardSaid : Prop := Claim7.holds Tryz.pinned (.plain (OpenSpec.upto classifyAnewSpec)) classifyAnewUptoCard

/-- THE SECOND FORM's CARD OF 'sluicegatelaw20.ClassifyOdd'. -/
def classifyOddUptoCard : Claim7 := { stood := { row := classifyOddUptoRow, standIns := [], harness := (true, "7f81eeffb942e953dd83c82c081e5f5d2aa558c9555c4b78191e5f3c4c926758"), looks := false }, kinds := [], alts := [], laidByText := true, laidKinds := [.data, .pinned], laidTests := true, laidLooks := .later }
def ClassifyOddUptoCardSaid : Prop := Claim7.holds Tryz.pinned (.plain (OpenSpec.upto classifyOddSpec)) classifyOddUptoCard
end Rows
end Go.Proofs.YtffbmfjmdcjcmaaGreatDoor
