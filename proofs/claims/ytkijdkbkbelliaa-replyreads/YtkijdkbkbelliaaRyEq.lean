/-
  A reply is itself: what '==' and '!=' of two structs that are the same return. Conditions: none.
-/
import Derived.Test.YtkijdkbkbelliaaRyPlain
import Derived.Laws.StructEq
import Derived.WalkKit
namespace Go.Proofs.Ytkijdkbkbelliaa
open Go.RowKit
set_option linter.unusedVariables false
set_option linter.unusedSimpArgs false

theorem neq_er (p : Er) (w : World) : (binOp .neq 35 (.agg #[.int .u16 p.co, .string p.st, .string p.tx]) (.agg #[.int .u16 p.co, .string p.st, .string p.tx])).run Try.prog w = .ok (.bool false) w := by
  rw [run_neq_struct, run_equalIn_agg w 9999 _ _ _ (by kernel_rfl) (by kernel_rfl)]
  simp [go_sem, Try.underlying35]
theorem neq_eo (p : Eo) (w : World) : (binOp .neq 41 (.agg #[.int .u16 p.wa, .int .u16 p.st]) (.agg #[.int .u16 p.wa, .int .u16 p.st])).run Try.prog w = .ok (.bool false) w := by
  rw [run_neq_struct, run_equalIn_agg w 9999 _ _ _ (by kernel_rfl) (by kernel_rfl)]
  simp [go_sem, Try.underlying41]
theorem neq_pr (p : Pr) (w : World) : (binOp .neq 48 (.agg #[.int .u32 p.id, .int .u16 p.co, .int .u16 p.pa, .int .u16 p.wa]) (.agg #[.int .u32 p.id, .int .u16 p.co, .int .u16 p.pa, .int .u16 p.wa])).run Try.prog w = .ok (.bool false) w := by
  rw [run_neq_struct, run_equalIn_agg w 9999 _ _ _ (by kernel_rfl) (by kernel_rfl)]
  simp [go_sem, Try.underlying48]
theorem eql_eo (p : Eo) (w : World) : (binOp .eql 41 (.agg #[.int .u16 p.wa, .int .u16 p.st]) (.agg #[.int .u16 p.wa, .int .u16 p.st])).run Try.prog w = .ok (.bool true) w := by
  rw [run_eql_struct, run_equalIn_agg w 9999 _ _ _ (by kernel_rfl) (by kernel_rfl)]
  simp [go_sem, Try.underlying41]
theorem eql_pr (p : Pr) (w : World) : (binOp .eql 48 (.agg #[.int .u32 p.id, .int .u16 p.co, .int .u16 p.pa, .int .u16 p.wa]) (.agg #[.int .u32 p.id, .int .u16 p.co, .int .u16 p.pa, .int .u16 p.wa])).run Try.prog w = .ok (.bool true) w := by
  rw [run_eql_struct, run_equalIn_agg w 9999 _ _ _ (by kernel_rfl) (by kernel_rfl)]
  simp [go_sem, Try.underlying48]

end Go.Proofs.Ytkijdkbkbelliaa
