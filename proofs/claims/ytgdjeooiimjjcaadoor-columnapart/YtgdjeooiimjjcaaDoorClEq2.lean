/-
  What '==' of two columns returns: whether they are the same. Conditions: none.
-/
import Derived.Test.YtgdjeooiimjjcaaDoorClEq
namespace Go.Proofs.YtgdjeooiimjjcaaDoor
open Go.RowKit
set_option linter.unusedVariables false
set_option linter.unusedSimpArgs false

theorem ba_inj {a b : ByteArray} (h : a.toList = b.toList) : a = b := by
  rw [ByteArray.toList_eq, ByteArray.toList_eq] at h
  exact ByteArray.ext (Array.ext' h)
theorem eql_ne {p q : Co} (h : p ≠ q) (w : World) : (binOp .eql 35 (.agg #[.string p.sc, .string p.ta, .string p.ot, .string p.na, .string p.on, .int .u16 p.ch, .int .u32 p.le, .int .u8 p.ty, .int .u16 p.fl, .int .u8 p.de]) (.agg #[.string q.sc, .string q.ta, .string q.ot, .string q.na, .string q.on, .int .u16 q.ch, .int .u32 q.le, .int .u8 q.ty, .int .u16 q.fl, .int .u8 q.de])).run Tryd.prog w = .ok (.bool false) w := by
  rw [run_eql_struct, run_equalIn_agg w 9999 _ _ _ (by kernel_rfl) (by kernel_rfl)]
  simp [go_sem, Tryd.underlying35]
  intro h0 h1 h2 h3 h4 h5 h6 h7 h8 h9
  apply h
  obtain ⟨a0, a1, a2, a3, a4, a5, a6, a7, a8, a9⟩ := p
  obtain ⟨b0, b1, b2, b3, b4, b5, b6, b7, b8, b9⟩ := q
  simp only at h0 h1 h2 h3 h4 h5 h6 h7 h8 h9
  rw [ba_inj h0, ba_inj h1, ba_inj h2, ba_inj h3, ba_inj h4, h5, h6, h7, h8, h9]
/-- Whichever it is. -/
theorem eql_two (p q : Co) : ∃ D : Bool, (D = true ↔ p = q) ∧ ∀ w : World, (binOp .eql 35 (.agg #[.string p.sc, .string p.ta, .string p.ot, .string p.na, .string p.on, .int .u16 p.ch, .int .u32 p.le, .int .u8 p.ty, .int .u16 p.fl, .int .u8 p.de]) (.agg #[.string q.sc, .string q.ta, .string q.ot, .string q.na, .string q.on, .int .u16 q.ch, .int .u32 q.le, .int .u8 q.ty, .int .u16 q.fl, .int .u8 q.de])).run Tryd.prog w = .ok (.bool D) w := by
  by_cases h : p = q
  · subst h
    exact ⟨true, by simp, fun w => eql_self p w⟩
  · exact ⟨false, by simpa using h, fun w => eql_ne h w⟩

end Go.Proofs.YtgdjeooiimjjcaaDoor
