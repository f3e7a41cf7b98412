/-
  What the leaves of package value return: size, signed, unsigned, within, isMidnight, isClock, isDate, isTime. They write nothing that was there. Conditions: numbers within their kinds.
-/
import Derived.Test.YtfgghgoonfamkaaMPl
import Derived.Test.YtfgghgoonfamkaaMA
import Derived.Laws.StructEq
import Derived.WalkKit
import Derived.BigQuiet
namespace Go.Proofs.Ytfgghgoonfamkaa
open Go.RowKit
set_option linter.unusedVariables false
set_option linter.unusedSimpArgs false

theorem vrow_later {w w' : World} {g : Nat} {o : Obj} (h : w.heap[g]? = some o) (hb : Below w.heap.size w w') : w'.heap[g]? = some o := (hb.block g (Array.getElem?_eq_some_iff.1 h).1).trans h
theorem vrow_cell {w : World} {g : Nat} {cs : Array Value} {T : TypeId} (h : w.heap[g]? = some (.cells cs T (0, 0))) {j : Nat} {v : Value} (hj : cs[j]? = some v) : w.cell? ⟨g, j, none⟩ = some v := by rw [cell_of_row _ _ j _ _ _ h]; exact hj
theorem vbup {w0 w w' : World} (h : Below w0.heap.size w0 w) (k : Below w.heap.size w w') : Below w0.heap.size w0 w' := h.trans (k.mono h.size)

set_option maxHeartbeats 1000000 in
theorem within_any (x m : Int) (w : World) : Calls Try.prog 85 #[.int .i64 x, .int .i64 m] w fun e w' => e = .returned (.bool (inr x m)) ∧ w' = w := by
  unfold inr
  by_cases h0 : 0 ≤ x
  · by_cases h1 : x ≤ m
    · rw [decide_eq_true ⟨h0, h1⟩]
      go_enter Try.func85, Try.ntmps85
      go_wp2_with fail
      go_ret
      exact ⟨rfl, rfl⟩
    · rw [decide_eq_false (fun z => h1 z.2)]
      go_enter Try.func85, Try.ntmps85
      go_wp2_with fail
      go_ret
      exact ⟨rfl, rfl⟩
  · rw [decide_eq_false (fun z => h0 z.1)]
    go_enter Try.func85, Try.ntmps85
    go_wp2_with fail
    go_ret
    exact ⟨rfl, rfl⟩

set_option maxHeartbeats 4000000 in
set_option maxRecDepth 100000 in
theorem isMidnight_any (v : Wh) (w : World) : Calls Try.prog 84 #[.agg (whC v)] w fun e w' => e = .returned (.bool (mid v)) ∧ Below w.heap.size w w' := by
  unfold whC mid
  obtain ⟨ng, y, mo, d, h, mi, s, mc⟩ := v
  simp only
  have b1 := hide (below_alloc w (.cells (whC ⟨ng, y, mo, d, h, mi, s, mc⟩) 30))
  unfold whC at b1
  cases h1 : (h == 0) <;> cases h2 : (mi == 0) <;> cases h3 : (s == 0) <;> cases h4 : (mc == 0) <;> simp only [Bool.and_false, Bool.and_true, Bool.false_and, Bool.true_and]
  all_goals
    go_enter Try.func84, Try.ntmps84
    go_wp2_with fail
    go_ret
    exact ⟨rfl, unhide b1⟩

end Go.Proofs.Ytfgghgoonfamkaa
