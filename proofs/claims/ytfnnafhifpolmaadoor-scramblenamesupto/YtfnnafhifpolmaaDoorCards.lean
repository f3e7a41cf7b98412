/-
  DERIVED. GIVEN WITH THE SEED: THE CARDS: each row of YtfnnafhifpolmaaDoorRows.lean that lists a variable, with what it lists TIED to the program's text (the seventh form; the later family's looks); each row that meets fmt, with fmt's text TOLD by the authors' own Lean function (tested against real Go, not proved from fmt's source: count such statements apart). THE CARD IS WHAT COUNTS. Prove the row's statement (the work); the ties are given (YtfnnafhifpolmaaDoorTie.lean); close each card by the builder's one call (the guide's Derived/Test/ToyasCard.lean, 'card_holds'). Laid BY PROGRAM, IN A SANDBOX (cutbox-door.mjs). By AI agents, Wed Nov 11 2026. No macro, syntax, notation, axiom, sorry.
-/
import Derived.Test.YtfnnafhifpolmaaDoorRows
import GoSem.ClaimSeven
namespace Go.Proofs.YtfnnafhifpolmaaDoor
namespace Rows

/-- THE TIED CARD OF 'sluicegatelaw08.ScrambleNames'. -/
def scrambleNamesCard : Claim7 := { stood := { row := scrambleNamesRow, standIns := [], harness := (true, "487a16d50f886c334fc2fb27b7cdeb088a0f8acb5eb883c2140d17ee6eddf3fa"), looks := false }, kinds := [], alts := [], laidByText := true, laidKinds := [.data], laidTests := true, laidLooks := .later }
def ScrambleNamesCardSaid : Prop := Claim7.holds Tryd.pinned (.plain (OpenSpec.ofChange scrambleNamesSpec)) scrambleNamesCard

/-- THE TIED CARD OF 'sluicegatelaw08.ScrambleCalls'. -/
def scrambleCallsCard : Claim7 := { stood := { row := scrambleCallsRow, standIns := [], harness := (true, "487a16d50f886c334fc2fb27b7cdeb088a0f8acb5eb883c2140d17ee6eddf3fa"), looks := false }, kinds := [], alts := [], laidByText := true, laidKinds := [.data], laidTests := true, laidLooks := .later }
def ScrambleCallsCardSaid : Prop := Claim7.holds Tryd.pinned (.plain (OpenSpec.ofChange scrambleCallsSpec)) scrambleCallsCard

/-- THE TIED CARD OF 'sluicegatelaw08.ScrambleRight'. -/
def scrambleRightCard : Claim7 := { stood := { row := scrambleRightRow, standIns := [], harness := (true, "487a16d50f886c334fc2fb27b7cdeb088a0f8acb5eb883c2140d17ee6eddf3fa"), looks := false }, kinds := [], alts := [], laidByText := true, laidKinds := [.data], laidTests := true, laidLooks := .later }
def ScrambleRightCardSaid : Prop := Claim7.holds Tryd.pinned (.plain (OpenSpec.ofChange scrambleRightSpec)) scrambleRightCard

/-- THE TIED CARD OF 'sluicegatelaw08.ScrambleKnows'. -/
def scrambleKnowsCard : Claim7 := { stood := { row := scrambleKnowsRow, standIns := [], harness := (true, "487a16d50f886c334fc2fb27b7cdeb088a0f8acb5eb883c2140d17ee6eddf3fa"), looks := false }, kinds := [], alts := [], laidByText := true, laidKinds := [.data], laidTests := true, laidLooks := .later }
def ScrambleKnowsCardSaid : Prop := Claim7.holds Tryd.pinned (.plain (OpenSpec.ofChange scrambleKnowsSpec)) scrambleKnowsCard

/-- THE SECOND FORM's CARD OF 'sluicegatelaw08.ScrambleNames'. -/
def scrambleNamesUptoCard : Claim7 := { stood := { row := scrambleNamesUptoRow, standIns := [], harness := (true, "487a16d50f886c334fc2fb27b7cdeb088a0f8acb5eb883c2140d17ee6eddf3fa"), looks := false }, kinds := [], alts := [], laidByText := true, laidKinds := [.data], laidTests := true, laidLooks := .later }
def ScrambleNamesUptoCardSaid : Prop := Claim7.holds Tryd.pinned (.plain (OpenSpec.upto scrambleNamesSpec)) scrambleNamesUptoCard

/-- THE SECOND FORM's CARD OF 'sluicegatelaw08.ScrambleCalls'. -/
def scrambleCallsUptoCard : Claim7 := { stood := { row := scrambleCallsUptoRow, standIns := [], harness := (true, "487a16d50f886c334fc2fb27b7cdeb088a0f8acb5eb883c2140d17ee6eddf3fa"), looks := false }, kinds := [], alts := [], laidByText := true, laidKinds := [.data], laidTests := true, laidLooks := .later }
def ScrambleCallsUptoCardSaid : Prop := Claim7.holds Tryd.pinned (.plain (OpenSpec.upto scrambleCallsSpec)) scrambleCallsUptoCard

/-- THE SECOND FORM's CARD OF 'sluicegatelaw08.ScrambleRight'. -/
def scrambleRightUptoCard : Claim7 := { stood := { row := scrambleRightUptoRow, standIns := [], harness := (true, "487a16d50f886c334fc2fb27b7cdeb088a0f8acb5eb883c2140d17ee6eddf3fa"), looks := false }, kinds := [], alts := [], laidByText := true, laidKinds := [.data], laidTests := true, laidLooks := .later }
def ScrambleRightUptoCardSaid : Prop := Claim7.holds Tryd.pinned (.plain (OpenSpec.upto scrambleRightSpec)) scrambleRightUptoCard

/-- THE SECOND FORM's CARD OF 'sluicegatelaw08.ScrambleKnows'. -/
def scrambleKnowsUptoCard : Claim7 := { stood := { row := scrambleKnowsUptoRow, standIns := [], harness := (true, "487a16d50f886c334fc2fb27b7cdeb088a0f8acb5eb883c2140d17ee6eddf3fa"), looks := false }, kinds := [], alts := [], laidByText := true, laidKinds := [.data], laidTests := true, laidLooks := .later }
def ScrambleKnowsUptoCardSaid : Prop := Claim7.holds Tryd.pinned (.plain (OpenSpec.upto scrambleKnowsSpec)) scrambleKnowsUptoCard
end Rows
end Go.Proofs.YtfnnafhifpolmaaDoor
