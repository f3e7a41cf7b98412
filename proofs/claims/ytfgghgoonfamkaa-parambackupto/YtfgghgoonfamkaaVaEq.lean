/-
  What '==' of two moments, of two values returns: whether they are the same. Conditions: none.
-/
import Derived.Test.YtfgghgoonfamkaaMPl
import Derived.Laws.StructEq
import Derived.WalkKit
namespace Go.Proofs.Ytfgghgoonfamkaa
open Go.RowKit
set_option linter.unusedVariables false
set_option linter.unusedSimpArgs false

theorem vba_inj {a b : ByteArray} (h : a.toList = b.toList) : a = b := by
  rw [ByteArray.toList_eq, ByteArray.toList_eq] at h
  exact ByteArray.ext (Array.ext' h)
theorem ite_and (c : Prop) [Decidable c] (b : Bool) (w : World) : (if c then Result.ok (Value.bool b) w else Result.ok (Value.bool false) w) = Result.ok (Value.bool (decide c && b)) w := by by_cases h : c <;> simp [h]
theorem eqw (p q : Wh) (w : World) : (binOp .eql 30 (.agg (whC p)) (.agg (whC q))).run Try.prog w = .ok (.bool (decide (p = q))) w := by
  obtain ⟨a0, a1, a2, a3, a4, a5, a6, a7⟩ := p
  obtain ⟨b0, b1, b2, b3, b4, b5, b6, b7⟩ := q
  unfold whC
  rw [run_eql_struct, run_equalIn_agg w 9999 _ _ _ (by kernel_rfl) (by kernel_rfl)]
  simp [go_sem, Try.underlying30]
  simp only [ite_and, Bool.and_true]
theorem ba_list (a b : ByteArray) : (a.toList = b.toList) = (a = b) := by
  apply propext
  exact ⟨vba_inj, fun h => by rw [h]⟩
set_option maxHeartbeats 1000000 in
theorem eqv (p q : Va) (w : World) : (binOp .eql 32 (.agg (vaC p)) (.agg (vaC q))).run Try.prog w = .ok (.bool (decide (p = q))) w := by
  obtain ⟨x0, x1, x2, x3, a0, a1, a2, a3, a4, a5, a6, a7⟩ := p
  obtain ⟨y0, y1, y2, y3, b0, b1, b2, b3, b4, b5, b6, b7⟩ := q
  unfold vaC
  rw [run_eql_struct, run_equalIn_agg w 9999 _ _ _ (by kernel_rfl) (by kernel_rfl)]
  simp [go_sem, Try.underlying32, Try.underlying30, ba_list]
  simp only [ite_and, Bool.and_true, Bool.and_assoc]

end Go.Proofs.Ytfgghgoonfamkaa
