/-
  DERIVED. GIVEN WITH THE SEED: THE CARDS: each row of YtgbahfadjdincaaDoorRows.lean that lists a variable, with what it lists TIED to the program's text (the seventh form; the later family's looks); each row that meets fmt, with fmt's text TOLD by the authors' own Lean function (tested against real Go, not proved from fmt's source: count such statements apart). THE CARD IS WHAT COUNTS. Prove the row's statement (the work); the ties are given (YtgbahfadjdincaaDoorTie.lean); close each card by the builder's one call (the guide's Derived/Test/ToyasCard.lean, 'card_holds'). Laid BY PROGRAM, IN A SANDBOX (cutbox-door.mjs). By AI agents, Wed Nov 11 2026. No macro, syntax, notation, axiom, sorry.
-/
import Derived.Test.YtgbahfadjdincaaDoorRows
import GoSem.ClaimSeven
namespace Go.Proofs.YtgbahfadjdincaaDoor
namespace Rows

/-- THE TIED CARD OF 'sluicegatelaw21.DigestNames'. -/
def digestNamesCard : Claim7 := { stood := { row := digestNamesRow, standIns := [], harness := (true, "691f75679b3c34a9711d5e53e4b5efcc3401aab9aa717e26daeb71992a390d90"), looks := false }, kinds := [], alts := [], laidByText := true, laidKinds := [.data, .pinned], laidTests := true, laidLooks := .later }
def DigestNamesCardSaid : Prop := Claim7.holds Tryd.pinned (.plain (OpenSpec.ofChange digestNamesSpec)) digestNamesCard

/-- THE TIED CARD OF 'sluicegatelaw21.DigestWords'. -/
def digestWordsCard : Claim7 := { stood := { row := digestWordsRow, standIns := [], harness := (true, "691f75679b3c34a9711d5e53e4b5efcc3401aab9aa717e26daeb71992a390d90"), looks := false }, kinds := [], alts := [], laidByText := true, laidKinds := [.data, .pinned], laidTests := true, laidLooks := .later }
def DigestWordsCardSaid : Prop := Claim7.holds Tryd.pinned (.plain (OpenSpec.ofChange digestWordsSpec)) digestWordsCard

/-- THE TIED CARD OF 'sluicegatelaw21.DigestTwice'. -/
def digestTwiceCard : Claim7 := { stood := { row := digestTwiceRow, standIns := [], harness := (true, "691f75679b3c34a9711d5e53e4b5efcc3401aab9aa717e26daeb71992a390d90"), looks := false }, kinds := [], alts := [], laidByText := true, laidKinds := [.data, .pinned], laidTests := true, laidLooks := .later }
def DigestTwiceCardSaid : Prop := Claim7.holds Tryd.pinned (.plain (OpenSpec.ofChange digestTwiceSpec)) digestTwiceCard

/-- THE SECOND FORM's CARD OF 'sluicegatelaw21.DigestNames'. -/
def digestNamesUptoCard : Claim7 := { stood := { row := digestNamesUptoRow, standIns := [], harness := (true, "691f75679b3c34a9711d5e53e4b5efcc3401aab9aa717e26daeb71992a390d90"), looks := false }, kinds := [], alts := [], laidByText := true, laidKinds := [.data, .pinned], laidTests := true, laidLooks := .later }
def DigestNamesUptoCardSaid : Prop := Claim7.holds Tryd.pinned (.plain (OpenSpec.upto digestNamesSpec)) digestNamesUptoCard

/-- THE SECOND FORM's CARD OF 'sluicegatelaw21.DigestWords'. -/
def digestWordsUptoCard : Claim7 := { stood := { row := digestWordsUptoRow, standIns := [], harness := (true, "691f75679b3c34a9711d5e53e4b5efcc3401aab9aa717e26daeb71992a390d90"), looks := false }, kinds := [], alts := [], laidByText := true, laidKinds := [.data, .pinned], laidTests := true, laidLooks := .later }
def DigestWordsUptoCardSaid : Prop := Claim7.holds Tryd.pinned (.plain (OpenSpec.upto digestWordsSpec)) digestWordsUptoCard

/-- THE SECOND FORM's CARD OF 'sluicegatelaw21.DigestTwice'. -/
def digestTwiceUptoCard : Claim7 := { stood := { row := digestTwiceUptoRow, standIns := [], harness := (true, "691f75679b3c34a9711d5e53e4b5efcc3401aab9aa717e26daeb71992a390d90"), looks := false }, kinds := [], alts := [], laidByText := true, laidKinds := [.data, .pinned], laidTests := true, laidLooks := .later }
def DigestTwiceUptoCardSaid : Prop := Claim7.holds Tryd.pinned (.plain (OpenSpec.upto digestTwiceSpec)) digestTwiceUptoCard
end Rows
end Go.Proofs.YtgbahfadjdincaaDoor
