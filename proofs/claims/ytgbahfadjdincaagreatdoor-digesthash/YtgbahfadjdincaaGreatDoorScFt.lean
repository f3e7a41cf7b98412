/-
  A fault, held against none, and loaded whole. Conditions: none.
-/
import Derived.Test.YtgbahfadjdincaaGreatDoorScAll
import Derived.Test.YtgbahfadjdincaaGreatDoorScPl3
namespace Go.Proofs.YtgbahfadjdincaaGreatDoor
open Go.RowKit
set_option linter.unusedVariables false
set_option linter.unusedSimpArgs false

theorem eq_ft (f : Ft) (w : World) : (binOp .eql 25 (.agg (ftC f)) (.agg #[.int .i64 0, .int .i64 0])).run Tryz.prog w = .ok (.bool (decide (f = ok0))) w := by
  obtain ⟨e, a⟩ := f
  unfold ftC ok0
  rw [run_eql_struct, run_equalIn_agg w 9999 _ _ _ (by kernel_rfl) (by kernel_rfl)]
  simp only [Ft.mk.injEq]
  by_cases h1 : e = 0
  · by_cases h2 : a = 0
    · simp [go_sem, Tryz.underlying25, h1, h2]
    · simp [go_sem, Tryz.underlying25, h1, h2]
  · simp [go_sem, Tryz.underlying25, h1]
theorem ne_ft (f : Ft) (w : World) : (binOp .neq 25 (.agg (ftC f)) (.agg #[.int .i64 0, .int .i64 0])).run Tryz.prog w = .ok (.bool (!decide (f = ok0))) w := by
  have h := eq_ft f w
  rw [run_eql_struct] at h
  rw [run_neq_struct]
  generalize (Op.equalIn 10000 25 (.agg (ftC f)) (.agg #[.int .i64 0, .int .i64 0])).run Tryz.prog w = X at h ⊢
  cases X <;> simp_all [Result.andThen]
theorem wpList_ldT {ops : Array Oper} {rest : List Oper} {o : Oper} {a : Act} {w : World} {Q : Exit → Act → World → Prop} (hgd : o.guard = none) (x : Operand) (ho : o.op = .load 25 x)
    (g : Nat) (f : Ft) (hx : a.eval x = .pointer (some ⟨g, 0, none⟩)) (hg : Tb g f w)
    (h : wpList Tryz.prog ops Q rest (a.put o.dst (.agg (ftC f))) w) : wpList Tryz.prog ops Q (o :: rest) a w :=
  wpList_load_row hgd _ x ho g hx _ (ftC f) (0, 0) _ hg Tryz.underlying25 rfl (ftc_info f) h

end Go.Proofs.YtgbahfadjdincaaGreatDoor
