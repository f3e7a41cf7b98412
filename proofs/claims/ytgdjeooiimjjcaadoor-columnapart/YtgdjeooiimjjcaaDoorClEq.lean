/-
  What '==' of two columns returns: whether they are the same. Conditions: none.
-/
import Derived.Test.YtgdjeooiimjjcaaDoorClPlain
import Derived.Laws.StructEq
import Derived.WalkKit
namespace Go.Proofs.YtgdjeooiimjjcaaDoor
open Go.RowKit
set_option linter.unusedVariables false
set_option linter.unusedSimpArgs false

theorem eql_self (p : Co) (w : World) : (binOp .eql 35 (.agg #[.string p.sc, .string p.ta, .string p.ot, .string p.na, .string p.on, .int .u16 p.ch, .int .u32 p.le, .int .u8 p.ty, .int .u16 p.fl, .int .u8 p.de]) (.agg #[.string p.sc, .string p.ta, .string p.ot, .string p.na, .string p.on, .int .u16 p.ch, .int .u32 p.le, .int .u8 p.ty, .int .u16 p.fl, .int .u8 p.de])).run Tryd.prog w = .ok (.bool true) w := by
  rw [run_eql_struct, run_equalIn_agg w 9999 _ _ _ (by kernel_rfl) (by kernel_rfl)]
  simp [go_sem, Tryd.underlying35]

end Go.Proofs.YtgdjeooiimjjcaaDoor
