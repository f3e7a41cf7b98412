/-
  Arrays of sixteen ints in memory: a block of its own. Conditions: none.
-/
import Derived.Test.YtalkeooejobjhaaDoorMMem
import Derived.Deep.WholeRow
namespace Go.Proofs.YtalkeooejobjhaaDoor
open Go.RowKit
set_option linter.unusedVariables false
set_option linter.unusedSimpArgs false

/-- The values of a row of ints. -/
def vs (l : List Int) : Array Value := (l.map (Value.int .i64)).toArray

theorem vs_size (l : List Int) : (vs l).size = l.length := by simp [vs]
theorem vs_at (l : List Int) {i : Nat} (h : i < l.length) : (vs l)[i]? = some (.int .i64 (l[i]?.getD 0)) := by
  simp [vs, List.getElem?_eq_getElem h]
theorem vs_set (l : List Int) (i : Nat) (v : Int) : (vs l).setIfInBounds i (.int .i64 v) = vs (l.set i v) := by
  simp [vs]
theorem vs_one (l : List Int) : (vs l).all (·.oneCell') = true := by
  rw [Array.all_eq_true_iff_forall_mem]
  intro v hv
  simp [vs] at hv
  obtain ⟨x, _, rfl⟩ := hv
  rfl

/-- Block g is the array l. -/
def Arr (w : World) (g : Nat) (l : List Int) : Prop := w.heap[g]? = some (.cells (vs l) 111 (0, 0))

theorem Arr.lt {w : World} {g : Nat} {l : List Int} (h : Arr w g l) : g < w.heap.size := (Array.getElem?_eq_some_iff.1 h).1
theorem Arr.later {w w' : World} {g : Nat} {l : List Int} (h : Arr w g l) (hb : Below w.heap.size w w') : Arr w' g l := by
  unfold Arr
  rw [hb.block g h.lt]
  exact h
theorem Arr.cell {w : World} {g : Nat} {l : List Int} (h : Arr w g l) {i : Nat} (hi : i < l.length) : w.cell? ⟨g, i, none⟩ = some (.int .i64 (l[i]?.getD 0)) := by
  rw [cell_of_row w g i _ _ _ h, vs_at l hi]
theorem Arr.free {w : World} {g : Nat} {l : List Int} (h : Arr w g l) (i : Nat) : w.frozen? ⟨g, i, none⟩ = false := frozen_of_row w g i _ _ h
theorem Arr.stored {w : World} {g : Nat} {l : List Int} (h : Arr w g l) (i : Nat) (v : Int) : Arr (w.setCell ⟨g, i, none⟩ (.int .i64 v)) g (l.set i v) := by
  unfold Arr
  rw [heap_setCell_same w g i _ _ _ h, vs_set]
theorem Arr.other {w : World} {g : Nat} {l : List Int} (h : Arr w g l) (a : Addr) (v : Value) (hne : g ≠ a.block) : Arr (w.setCell a v) g l := by
  unfold Arr
  rw [heap_setCell_other w a g v hne]
  exact h

theorem Tryd.arr : Tryd.prog.underlying 111 = some (.array 16 3) := by kernel_rfl
theorem Tryd.arrSize : (Tryd.prog.info? 111).map (·.size) = some 16 := by kernel_rfl
theorem Tryd.arrZero : (Tryd.prog.info? 111).map (fun i => (i.zero, i.size)) = some (some (.agg (vs (List.replicate 16 0))), 16) := by kernel_rfl

def zero16 : List Int := List.replicate 16 0
theorem zero16_len : zero16.length = 16 := by simp [zero16]

/-- A new array. -/
theorem wpList_arrAlloc {ops : Array Oper} {rest : List Oper} {o : Oper} {a : Act} {w : World} {Q : Exit → Act → World → Prop} (hgd : o.guard = none) (ho : o.op = .alloc 111)
    (h : ∀ w1, Arr w1 w.heap.size zero16 → Below w.heap.size w w1 → w1.heap.size = w.heap.size + 1 → wpList Tryd.prog ops Q rest (a.put o.dst (.pointer (some ⟨w.heap.size, 0, none⟩))) w1) : wpList Tryd.prog ops Q (o :: rest) a w := by
  refine wpList_plain hgd fun K hK' => ?_
  have hz := (zero_of_info Tryd.arrZero).1
  unfold Oper.wp
  simp [execOp, ho, Instr.alloc, hz, Result.andThen]
  exact hK' _ _ (h _ (heap_alloc_new w _) (below_alloc w _) (by simp))

/-- A new array that holds a value. -/
theorem wpList_arrBox {ops : Array Oper} {rest : List Oper} {o : Oper} {a : Act} {w : World} {Q : Exit → Act → World → Prop} (hgd : o.guard = none) (x : Operand) (ho : o.op = .box 111 x)
    (l : List Int) (hx : a.eval x = .agg (vs l))
    (h : ∀ w1, Arr w1 w.heap.size l → Below w.heap.size w w1 → w1.heap.size = w.heap.size + 1 → wpList Tryd.prog ops Q rest (a.put o.dst (.pointer (some ⟨w.heap.size, 0, none⟩))) w1) : wpList Tryd.prog ops Q (o :: rest) a w := by
  refine wpList_plain hgd fun K hK' => ?_
  unfold Oper.wp
  simp [execOp, ho, Instr.box, hx, Result.andThen]
  exact hK' _ _ (h _ (heap_alloc_new w _) (below_alloc w _) (by simp))

/-- A whole array is read. -/
theorem wpList_arrLoad {ops : Array Oper} {rest : List Oper} {o : Oper} {a : Act} {w : World} {Q : Exit → Act → World → Prop} (hgd : o.guard = none) (x : Operand) (ho : o.op = .load 111 x)
    (g : Nat) (hx : a.eval x = .pointer (some ⟨g, 0, none⟩)) (l : List Int) (hg : Arr w g l) (hl : l.length = 16)
    (h : wpList Tryd.prog ops Q rest (a.put o.dst (.agg (vs l))) w) : wpList Tryd.prog ops Q (o :: rest) a w :=
  wpList_load_row hgd _ x ho g hx _ (vs l) (0, 0) _ hg Tryd.arr rfl (by rw [vs_size, hl]; exact Tryd.arrSize) h

/-- A whole array is written. -/
theorem wpList_arrStore {ops : Array Oper} {rest : List Oper} {o : Oper} {a : Act} {w : World} {Q : Exit → Act → World → Prop} (hgd : o.guard = none) (x y : Operand) (ho : o.op = .store 111 x y)
    (g : Nat) (l old : List Int) (hx : a.eval x = .pointer (some ⟨g, 0, none⟩)) (hy : a.eval y = .agg (vs l)) (hg : Arr w g old) (hl : l.length = 16) (hold : old.length = 16)
    (h : ∀ w1, Arr w1 g l → (∀ k, k ≠ g → w1.heap[k]? = w.heap[k]?) → w1.heap.size = w.heap.size → Below g w w1 → wpList Tryd.prog ops Q rest (a.put o.dst undef) w1) : wpList Tryd.prog ops Q (o :: rest) a w := by
  refine wpList_store_row hgd _ x y ho g (vs l) hx hy _ (vs old) hg (by rw [vs_size, hl]; exact Tryd.arrSize) (by rw [vs_size, vs_size, hl, hold]) (vs_one l) ?_
  refine h _ (setRow_heap w g _ _ _ _ hg) (fun k hk => setRow_other w g k _ hk) (by simp) ⟨rfl, rfl, rfl, by simp, fun k hk => setRow_other w g k _ (by omega)⟩

end Go.Proofs.YtalkeooejobjhaaDoor
