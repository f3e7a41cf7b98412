/-
  Arrays of numbers in memory, each in a block of its own, and a hash: one block that holds its kind, its words, what is no whole block, and how many bytes there were. Conditions: none.
-/
import Derived.Test.YtfnnafhifpolmaaDoorShaLeaf
import Derived.Deep.WholeRow
import Derived.Deep.MidRow
import Derived.Laws.CopyOwn
namespace Go.Proofs.YtfnnafhifpolmaaDoor
open Go.RowKit
set_option linter.unusedVariables false
set_option linter.unusedSimpArgs false

/-- The values of a row of numbers. -/
def vk (k : IntKind) (l : List Int) : Array Value := (l.map (Value.int k)).toArray
theorem vk_size (k : IntKind) (l : List Int) : (vk k l).size = l.length := by simp [vk]
theorem vk_at (k : IntKind) (l : List Int) {i : Nat} (h : i < l.length) : (vk k l)[i]? = some (.int k (ix l i)) := by
  simp [vk, ix, List.getElem?_eq_getElem h]
theorem vk_set (k : IntKind) (l : List Int) (i : Nat) (v : Int) : (vk k l).setIfInBounds i (.int k v) = vk k (l.set i v) := by simp [vk]
theorem vk_one (k : IntKind) (l : List Int) : (vk k l).all (·.oneCell') = true := by
  rw [Array.all_eq_true_iff_forall_mem]
  intro v hv
  simp [vk] at hv
  obtain ⟨x, _, rfl⟩ := hv
  rfl

/-- Block g is the array l. -/
def Arr (w : World) (g : Nat) (t : TypeId) (k : IntKind) (l : List Int) : Prop := w.heap[g]? = some (.cells (vk k l) t (0, 0))

theorem Arr.lt {w : World} {g : Nat} {t : TypeId} {k : IntKind} {l : List Int} (h : Arr w g t k l) : g < w.heap.size := (Array.getElem?_eq_some_iff.1 h).1
theorem Arr.keep {w w' : World} {g : Nat} {t : TypeId} {k : IntKind} {l : List Int} (h : Arr w g t k l) (hb : w'.heap[g]? = w.heap[g]?) : Arr w' g t k l := by
  unfold Arr
  rw [hb]
  exact h
theorem Arr.later {w w' : World} {g : Nat} {t : TypeId} {k : IntKind} {l : List Int} (h : Arr w g t k l) (hb : Below w.heap.size w w') : Arr w' g t k l := h.keep (hb.block g h.lt)
theorem Arr.cell {w : World} {g : Nat} {t : TypeId} {k : IntKind} {l : List Int} (h : Arr w g t k l) {i : Nat} (hi : i < l.length) : w.cell? ⟨g, i, none⟩ = some (.int k (ix l i)) := by
  rw [cell_of_row w g i _ _ _ h, vk_at k l hi]
theorem Arr.free {w : World} {g : Nat} {t : TypeId} {k : IntKind} {l : List Int} (h : Arr w g t k l) (i : Nat) : w.frozen? ⟨g, i, none⟩ = false := frozen_of_row w g i _ _ h
theorem Arr.stored {w : World} {g : Nat} {t : TypeId} {k : IntKind} {l : List Int} (h : Arr w g t k l) (i : Nat) (v : Int) : Arr (w.setCell ⟨g, i, none⟩ (.int k v)) g t k (l.set i v) := by
  unfold Arr
  rw [heap_setCell_same w g i _ _ _ h, vk_set]
theorem Arr.other {w : World} {g : Nat} {t : TypeId} {k : IntKind} {l : List Int} (h : Arr w g t k l) (a : Addr) (v : Value) (hne : g ≠ a.block) : Arr (w.setCell a v) g t k l := h.keep (heap_setCell_other w a g v hne)

/-- What is known of an array's type. -/
structure TA (t : TypeId) (n : Nat) (e : TypeId) (k : IntKind) : Prop where
  und : Tryd.prog.underlying t = some (.array n e)
  elem : (Tryd.prog.info? e).map (·.size) = some 1
  flat : ∀ w, (isAgg e).run Tryd.prog w = .ok false w
  zero : (Tryd.prog.info? t).map (fun i => (i.zero, i.size)) = some (some (.agg (vk k (List.replicate n 0))), n)
theorem TA.size {t e : TypeId} {n : Nat} {k : IntKind} (h : TA t n e k) : (Tryd.prog.info? t).map (·.size) = some n := (zero_of_info h.zero).2

theorem ta8 : TA 48 8 47 .u32 := ⟨by kernel_rfl, by kernel_rfl, fun w => by kernel_rfl, by kernel_rfl⟩
theorem ta16 : TA 66 16 47 .u32 := ⟨by kernel_rfl, by kernel_rfl, fun w => by kernel_rfl, by kernel_rfl⟩
theorem ta64 : TA 73 64 47 .u32 := ⟨by kernel_rfl, by kernel_rfl, fun w => by kernel_rfl, by kernel_rfl⟩
theorem ta80 : TA 69 80 47 .u32 := ⟨by kernel_rfl, by kernel_rfl, fun w => by kernel_rfl, by kernel_rfl⟩
theorem tb64 : TA 50 64 5 .u8 := ⟨by kernel_rfl, by kernel_rfl, fun w => by kernel_rfl, by kernel_rfl⟩

/-- Noughts. -/
def zs (n : Nat) : List Int := List.replicate n 0
theorem zs_len (n : Nat) : (zs n).length = n := by simp [zs]

theorem wpList_aAlloc {ops : Array Oper} {rest : List Oper} {o : Oper} {a : Act} {w : World} {Q : Exit → Act → World → Prop} {t e : TypeId} {n : Nat} {k : IntKind} (T : TA t n e k) (hgd : o.guard = none) (ho : o.op = .alloc t)
    (h : ∀ w1, Arr w1 w.heap.size t k (zs n) → Below w.heap.size w w1 → w1.heap.size = w.heap.size + 1 → wpList Tryd.prog ops Q rest (a.put o.dst (.pointer (some ⟨w.heap.size, 0, none⟩))) w1) : wpList Tryd.prog ops Q (o :: rest) a w := by
  refine wpList_plain hgd fun K hK' => ?_
  have hz := (zero_of_info T.zero).1
  unfold Oper.wp
  simp [execOp, ho, Instr.alloc, hz, Result.andThen]
  exact hK' _ _ (h _ (heap_alloc_new w _) (below_alloc w _) (by simp))
theorem wpList_aBox {ops : Array Oper} {rest : List Oper} {o : Oper} {a : Act} {w : World} {Q : Exit → Act → World → Prop} {t : TypeId} {k : IntKind} (hgd : o.guard = none) (x : Operand) (ho : o.op = .box t x)
    (l : List Int) (hx : a.eval x = .agg (vk k l))
    (h : ∀ w1, Arr w1 w.heap.size t k l → Below w.heap.size w w1 → w1.heap.size = w.heap.size + 1 → wpList Tryd.prog ops Q rest (a.put o.dst (.pointer (some ⟨w.heap.size, 0, none⟩))) w1) : wpList Tryd.prog ops Q (o :: rest) a w := by
  refine wpList_plain hgd fun K hK' => ?_
  unfold Oper.wp
  simp [execOp, ho, Instr.box, hx, Result.andThen]
  exact hK' _ _ (h _ (heap_alloc_new w _) (below_alloc w _) (by simp))
theorem wpList_aLoad {ops : Array Oper} {rest : List Oper} {o : Oper} {a : Act} {w : World} {Q : Exit → Act → World → Prop} {t e : TypeId} {n : Nat} {k : IntKind} (T : TA t n e k) (hgd : o.guard = none) (x : Operand) (ho : o.op = .load t x)
    (g : Nat) (hx : a.eval x = .pointer (some ⟨g, 0, none⟩)) (l : List Int) (hg : Arr w g t k l) (hl : l.length = n)
    (h : wpList Tryd.prog ops Q rest (a.put o.dst (.agg (vk k l))) w) : wpList Tryd.prog ops Q (o :: rest) a w :=
  wpList_load_row hgd _ x ho g hx _ (vk k l) (0, 0) _ hg T.und rfl (by rw [vk_size, hl]; exact T.size) h
theorem wpList_aStore {ops : Array Oper} {rest : List Oper} {o : Oper} {a : Act} {w : World} {Q : Exit → Act → World → Prop} {t e : TypeId} {n : Nat} {k : IntKind} (T : TA t n e k) (hgd : o.guard = none) (x y : Operand) (ho : o.op = .store t x y)
    (g : Nat) (l old : List Int) (hx : a.eval x = .pointer (some ⟨g, 0, none⟩)) (hy : a.eval y = .agg (vk k l)) (hg : Arr w g t k old) (hl : l.length = n) (hold : old.length = n)
    (h : ∀ w1, Arr w1 g t k l → (∀ j, j ≠ g → w1.heap[j]? = w.heap[j]?) → w1.heap.size = w.heap.size → Below g w w1 → wpList Tryd.prog ops Q rest (a.put o.dst undef) w1) : wpList Tryd.prog ops Q (o :: rest) a w := by
  refine wpList_store_row hgd _ x y ho g (vk k l) hx hy _ (vk k old) hg (by rw [vk_size, hl]; exact T.size) (by rw [vk_size, vk_size, hl, hold]) (vk_one k l) ?_
  refine h _ (setRow_heap w g _ _ _ _ hg) (fun j hj => setRow_other w g j _ hj) (by simp) ⟨rfl, rfl, rfl, by simp, fun j hj => setRow_other w g j _ (by omega)⟩
theorem results_arr {fn : Func} {p : Tmp} {t e : TypeId} {n : Nat} {k : IntKind} (T : TA t n e k) (h : fn.results = #[.cell p t]) (tmps : Array Value) (w : World) (g : Nat) (l : List Int) (hl : l.length = n)
    (hp : tmps.getD p undef = .pointer (some ⟨g, 0, none⟩)) (hg : Arr w g t k l) :
    (results fn tmps).run Tryd.prog w = .ok (.agg (vk k l)) w :=
  results_cell_row h tmps w g _ (vk k l) (0, 0) _ hp hg T.und rfl (by rw [vk_size, hl]; exact T.size)

/-- 'l[i]' of an array by value, for the walk. -/
theorem run_aIndex {t e : TypeId} {n : Nat} {k : IntKind} (T : TA t n e k) (l : List Int) (hl : l.length = n) (i : Nat) (hi : i < n) (I : Int) (hI : I = i) (w : World) :
    (Instr.index t (.agg (vk k l)) (.int .i64 I)).run Tryd.prog w = .ok (.int k (ix l i)) w := by
  subst hI
  have ha := vk_at k l (i := i) (by omega)
  have hf := T.flat
  cases hq : Tryd.prog.info? e with
  | none => have := T.elem; simp [hq] at this
  | some i0 =>
    have hs : i0.size = 1 := by have := T.elem; simpa [hq] using this
    simp [Instr.index, run_underlying T.und, sizeOf, typeInfo, hq, hs, part, hf, ha, hi, asIntOf]

end Go.Proofs.YtfnnafhifpolmaaDoor
