/-
  What the ReadInt that gives the document's answer returns for any bytes: the plain function readInt, as the program's own. It writes nothing. Conditions: none but that the slice can be read.
-/
import Derived.Test.YtnodhdggafffaaaDoorLeInts
namespace Go.Proofs.YtnodhdggafffaaaDoor
open Go.RowKit
set_option linter.unusedVariables false
set_option linter.unusedSimpArgs false


theorem widthOf_ref {x : Int} (a : ¬ x ≤ 250) (h1 : x ≠ 251) (h2 : x ≠ 255) (h3 : x ≤ 255) : (x = 254 ∧ widthOf x = 8) ∨ (x ≠ 254 ∧ widthOf x = x - 250 ∧ 2 ≤ x - 250 ∧ x - 250 ≤ 3) := by
  have : x = 252 ∨ x = 253 ∨ x = 254 := by omega
  rcases this with rfl | rfl | rfl
  · right; decide
  · right; decide
  · left; decide


end Go.Proofs.YtnodhdggafffaaaDoor
