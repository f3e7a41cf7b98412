/-
  DERIVED. GIVEN WITH THE SEED: THE CARDS: each row of YtdpkemnklfnipaaDoorRows.lean that lists a variable, with what it lists TIED to the program's text (the seventh form; the later family's looks); each row that meets fmt, with fmt's text TOLD by the authors' own Lean function (tested against real Go, not proved from fmt's source: count such statements apart). THE CARD IS WHAT COUNTS. Prove the row's statement (the work); the ties are given (YtdpkemnklfnipaaDoorTie.lean); close each card by the builder's one call (the guide's Derived/Test/ToyasCard.lean, 'card_holds'). Laid BY PROGRAM, IN A SANDBOX (cutbox-door.mjs). By AI agents, Wed Nov 11 2026. No macro, syntax, notation, axiom, sorry.
-/
import Derived.Test.YtdpkemnklfnipaaDoorRows
import GoSem.ClaimSeven
namespace Go.Proofs.YtdpkemnklfnipaaDoor
namespace Rows

/-- THE TIED CARD OF 'sluicegatelaw04.InflateNames'. -/
def inflateNamesCard : Claim7 := { stood := { row := inflateNamesRow, standIns := [], harness := (true, "436cc53dd50d3d4766759f39868a978d670206c1796a3056298749c80f8a31c5"), looks := false }, kinds := [], alts := [], laidByText := true, laidKinds := [.data, .data, .data], laidTests := true, laidLooks := .later }
def InflateNamesCardSaid : Prop := Claim7.holds Tryd.pinned (.plain (OpenSpec.ofChange inflateNamesSpec)) inflateNamesCard

/-- THE TIED CARD OF 'sluicegatelaw04.InflateEnds'. -/
def inflateEndsCard : Claim7 := { stood := { row := inflateEndsRow, standIns := [], harness := (true, "436cc53dd50d3d4766759f39868a978d670206c1796a3056298749c80f8a31c5"), looks := false }, kinds := [], alts := [], laidByText := true, laidKinds := [.data, .data, .data], laidTests := true, laidLooks := .later }
def InflateEndsCardSaid : Prop := Claim7.holds Tryd.pinned (.plain (OpenSpec.ofChange inflateEndsSpec)) inflateEndsCard

/-- THE TIED CARD OF 'sluicegatelaw04.InflateBlocks'. -/
def inflateBlocksCard : Claim7 := { stood := { row := inflateBlocksRow, standIns := [], harness := (true, "436cc53dd50d3d4766759f39868a978d670206c1796a3056298749c80f8a31c5"), looks := false }, kinds := [], alts := [], laidByText := true, laidKinds := [.data, .data, .data], laidTests := true, laidLooks := .later }
def InflateBlocksCardSaid : Prop := Claim7.holds Tryd.pinned (.plain (OpenSpec.ofChange inflateBlocksSpec)) inflateBlocksCard

/-- THE SECOND FORM's CARD OF 'sluicegatelaw04.InflateNames'. -/
def inflateNamesUptoCard : Claim7 := { stood := { row := inflateNamesUptoRow, standIns := [], harness := (true, "436cc53dd50d3d4766759f39868a978d670206c1796a3056298749c80f8a31c5"), looks := false }, kinds := [], alts := [], laidByText := true, laidKinds := [.data, .data, .data], laidTests := true, laidLooks := .later }
def InflateNamesUptoCardSaid : Prop := Claim7.holds Tryd.pinned (.plain (OpenSpec.upto inflateNamesSpec)) inflateNamesUptoCard

/-- THE SECOND FORM's CARD OF 'sluicegatelaw04.InflateEnds'. -/
def inflateEndsUptoCard : Claim7 := { stood := { row := inflateEndsUptoRow, standIns := [], harness := (true, "436cc53dd50d3d4766759f39868a978d670206c1796a3056298749c80f8a31c5"), looks := false }, kinds := [], alts := [], laidByText := true, laidKinds := [.data, .data, .data], laidTests := true, laidLooks := .later }
def InflateEndsUptoCardSaid : Prop := Claim7.holds Tryd.pinned (.plain (OpenSpec.upto inflateEndsSpec)) inflateEndsUptoCard

/-- THE SECOND FORM's CARD OF 'sluicegatelaw04.InflateBlocks'. -/
def inflateBlocksUptoCard : Claim7 := { stood := { row := inflateBlocksUptoRow, standIns := [], harness := (true, "436cc53dd50d3d4766759f39868a978d670206c1796a3056298749c80f8a31c5"), looks := false }, kinds := [], alts := [], laidByText := true, laidKinds := [.data, .data, .data], laidTests := true, laidLooks := .later }
def InflateBlocksUptoCardSaid : Prop := Claim7.holds Tryd.pinned (.plain (OpenSpec.upto inflateBlocksSpec)) inflateBlocksUptoCard
end Rows
end Go.Proofs.YtdpkemnklfnipaaDoor
