/-
  A column that lies in a block of its own through a whole walk. Conditions: none.
-/
import Derived.Test.YtgdjeooiimjjcaaClTx
namespace Go.Proofs.Ytgdjeooiimjjcaa
open Go.RowKit
set_option linter.unusedVariables false
set_option linter.unusedSimpArgs false

/-- What stands through the whole: the column in its block, nothing old changed. -/
structure Cs (w0 : World) (p : Co) (w : World) : Prop where
  row : w.heap[w0.heap.size]? = some (.cells #[.string p.sc, .string p.ta, .string p.ot, .string p.na, .string p.on, .int .u16 p.ch, .int .u32 p.le, .int .u8 p.ty, .int .u16 p.fl, .int .u8 p.de] 28 (0, 0))
  bel : Below w0.heap.size w0 w
theorem Cs.later {w0 w w' : World} {p : Co} (h : Cs w0 p w) (hb : Below w.heap.size w w') : Cs w0 p w' := ⟨row_later h.row hb, bup h.bel hb⟩
/-- .. and the bytes. -/
structure Cw (w0 : World) (p : Co) (ao : Option Addr) (n c : Nat) (l : List Int) (w : World) : Prop where
  cs : Cs w0 p w
  bs : Bs w ao n c l
theorem Cw.later {w0 w w' : World} {p : Co} {ao : Option Addr} {n c : Nat} {l : List Int} (h : Cw w0 p ao n c l w) (hb : Below w.heap.size w w') : Cw w0 p ao n c l w' := ⟨h.cs.later hb, h.bs.later hb⟩
theorem Cw.row {w0 w : World} {p : Co} {ao : Option Addr} {n c : Nat} {l : List Int} (h : Cw w0 p ao n c l w) : w.heap[w0.heap.size]? = some (.cells #[.string p.sc, .string p.ta, .string p.ot, .string p.na, .string p.on, .int .u16 p.ch, .int .u32 p.le, .int .u8 p.ty, .int .u16 p.fl, .int .u8 p.de] 28 (0, 0)) := h.cs.row

end Go.Proofs.Ytgdjeooiimjjcaa
