/-
  A struct of one-cell fields that a call returned, kept in a variable's block: stored whole, loaded whole. Conditions: none but the row's size.
-/
import Derived.Test.YtkijdkbkbelliaaRyLives
import Derived.Test.YtkijdkbkbelliaaRyReadOk
namespace Go.Proofs.Ytkijdkbkbelliaa
open Go.RowKit
set_option linter.unusedVariables false
set_option linter.unusedSimpArgs false

/-- 'x := T{..}': into the block that was just made for it. -/
theorem wpList_stN {ops : Array Oper} {rest : List Oper} {o : Oper} {a : Act} {w : World} {c0 : Array Value} {Q : Exit → Act → World → Prop} (hgd : o.guard = none) (T : TypeId) (x y : Operand) (ho : o.op = .store T x y)
    (cs : Array Value) (hx : a.eval x = .pointer (some ⟨w.heap.size, 0, none⟩)) (hy : a.eval y = .agg cs) (hi : (Try.prog.info? T).map (·.size) = some cs.size) (h8 : c0.size = cs.size) (h1 : cs.all (·.oneCell') = true)
    (h : ∀ w1, w1.heap[w.heap.size]? = some (.cells cs T (0, 0)) → Below w.heap.size w w1 → w.heap.size < w1.heap.size → wpList Try.prog ops Q rest (a.put o.dst undef) w1) : wpList Try.prog ops Q (o :: rest) a (w.alloc (.cells c0 T)) := by
  refine wpList_store_row hgd _ x y ho w.heap.size cs hx hy _ c0 (heap_alloc_new w _) hi h8 h1 ?_
  rw [World.setRow_alloc_new]
  exact h _ (heap_alloc_new w _) (below_alloc w _) (by simp)
/-- 'x = T{..}', x in block g. -/
theorem wpList_stG {ops : Array Oper} {rest : List Oper} {o : Oper} {a : Act} {w : World} {Q : Exit → Act → World → Prop} (hgd : o.guard = none) (T : TypeId) (x y : Operand) (ho : o.op = .store T x y)
    (g : Nat) (cs c0 : Array Value) (hx : a.eval x = .pointer (some ⟨g, 0, none⟩)) (hy : a.eval y = .agg cs) (hg : w.heap[g]? = some (.cells c0 T (0, 0))) (hi : (Try.prog.info? T).map (·.size) = some cs.size) (h8 : c0.size = cs.size) (h1 : cs.all (·.oneCell') = true)
    (h : ∀ w1, w1.heap[g]? = some (.cells cs T (0, 0)) → Gb g w w1 → w1.heap.size = w.heap.size → wpList Try.prog ops Q rest (a.put o.dst undef) w1) : wpList Try.prog ops Q (o :: rest) a w := by
  refine wpList_store_row hgd _ x y ho g cs hx hy _ c0 hg hi h8 h1 ?_
  exact h _ (setRow_heap w g _ _ _ _ hg) ⟨rfl, rfl, rfl, by simp, fun j _ hj => setRow_other w g j _ hj⟩ (by simp)
theorem row_later {w w' : World} {g : Nat} {o : Obj} (h : w.heap[g]? = some o) (hb : Below w.heap.size w w') : w'.heap[g]? = some o := (hb.block g (Array.getElem?_eq_some_iff.1 h).1).trans h
theorem row_lt {w : World} {g : Nat} {o : Obj} (h : w.heap[g]? = some o) : g < w.heap.size := (Array.getElem?_eq_some_iff.1 h).1
theorem row_cell {w : World} {g : Nat} {cs : Array Value} {T : TypeId} (h : w.heap[g]? = some (.cells cs T (0, 0))) {j : Nat} {v : Value} (hj : cs[j]? = some v) : w.cell? ⟨g, j, none⟩ = some v := by rw [cell_of_row _ _ j _ _ _ h]; exact hj

theorem bup {w0 w w' : World} (h : Below w0.heap.size w0 w) (k : Below w.heap.size w w') : Below w0.heap.size w0 w' := h.trans (k.mono h.size)

end Go.Proofs.Ytkijdkbkbelliaa
