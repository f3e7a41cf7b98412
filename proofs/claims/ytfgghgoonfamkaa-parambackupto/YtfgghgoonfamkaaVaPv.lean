/-
  A moment, a value and a type that a function took: in blocks of their own. Conditions: none.
-/
import Derived.Test.YtfgghgoonfamkaaVaLeaf
namespace Go.Proofs.Ytfgghgoonfamkaa
open Go.RowKit
set_option linter.unusedVariables false
set_option linter.unusedSimpArgs false

/-- A moment that a function took. -/
structure Pw (w0 : World) (v : Wh) (w : World) : Prop where
  rv : w.heap[w0.heap.size]? = some (.cells (whC v) 30 (0, 0))
  bl : Below w0.heap.size w0 w
theorem Pw.later {w0 w w' : World} {v : Wh} (h : Pw w0 v w) (b : Below w.heap.size w w') : Pw w0 v w' := ⟨vrow_later h.rv b, vbup h.bl b⟩
theorem Pw.drew {w0 w : World} {v : Wh} (h : Pw w0 v w) : Pw w0 v w.drew := ⟨h.rv, h.bl.drew⟩
theorem Pw.box (w : World) (v : Wh) : Pw w v (w.alloc (.cells (whC v) 30)) := ⟨heap_alloc_new w _, below_alloc w _⟩
/-- A value and a type that a function took. -/
structure Pv (w0 : World) (v : Va) (t : Int) (un : Bool) (w : World) : Prop where
  rv : w.heap[w0.heap.size]? = some (.cells (vaC v) 32 (0, 0))
  rt : w.heap[w0.heap.size + 1]? = some (.cells #[.int .u8 t, .bool un] 27 (0, 0))
  bl : Below w0.heap.size w0 w
theorem Pv.later {w0 w w' : World} {v : Va} {t : Int} {un : Bool} (h : Pv w0 v t un w) (b : Below w.heap.size w w') : Pv w0 v t un w' := ⟨vrow_later h.rv b, vrow_later h.rt b, vbup h.bl b⟩
theorem Pv.drew {w0 w : World} {v : Va} {t : Int} {un : Bool} (h : Pv w0 v t un w) : Pv w0 v t un w.drew := ⟨h.rv, h.rt, h.bl.drew⟩
theorem Pv.box (w : World) (v : Va) (t : Int) (un : Bool) : Pv w v t un ((w.alloc (.cells (vaC v) 32)).alloc (.cells #[.int .u8 t, .bool un] 27)) := by
  have b1 := below_alloc w (.cells (vaC v) 32)
  have b2 := below_alloc (w.alloc (.cells (vaC v) 32)) (.cells #[.int .u8 t, .bool un] 27)
  have r1 := heap_alloc_new w (.cells (vaC v) 32)
  have r2 := heap_alloc_new (w.alloc (.cells (vaC v) 32)) (.cells #[.int .u8 t, .bool un] 27)
  refine ⟨vrow_later r1 b2, ?_, vbup b1 b2⟩
  rw [show (w.alloc (.cells (vaC v) 32)).heap.size = w.heap.size + 1 by simp] at r2
  exact r2
theorem Pw.cells {w0 w : World} {ng : Bool} {y mo d h mi s mc : Int} (H : Pw w0 ⟨ng, y, mo, d, h, mi, s, mc⟩ w) : w.cell? ⟨w0.heap.size, 0, none⟩ = some (.bool ng) ∧ w.cell? ⟨w0.heap.size, 1, none⟩ = some (.int .i64 y) ∧ w.cell? ⟨w0.heap.size, 2, none⟩ = some (.int .i64 mo) ∧ w.cell? ⟨w0.heap.size, 3, none⟩ = some (.int .i64 d) ∧ w.cell? ⟨w0.heap.size, 4, none⟩ = some (.int .i64 h) ∧ w.cell? ⟨w0.heap.size, 5, none⟩ = some (.int .i64 mi) ∧ w.cell? ⟨w0.heap.size, 6, none⟩ = some (.int .i64 s) ∧ w.cell? ⟨w0.heap.size, 7, none⟩ = some (.int .i64 mc) :=
  ⟨vrow_cell H.rv (j := 0) rfl, vrow_cell H.rv (j := 1) rfl, vrow_cell H.rv (j := 2) rfl, vrow_cell H.rv (j := 3) rfl, vrow_cell H.rv (j := 4) rfl, vrow_cell H.rv (j := 5) rfl, vrow_cell H.rv (j := 6) rfl, vrow_cell H.rv (j := 7) rfl⟩
theorem Pv.cells {w0 w : World} {k i b : Int} {tx : ByteArray} {ng : Bool} {y mo d h mi s mc t : Int} {un : Bool} (H : Pv w0 ⟨k, i, b, tx, ⟨ng, y, mo, d, h, mi, s, mc⟩⟩ t un w) : w.cell? ⟨w0.heap.size, 0, none⟩ = some (.int .i64 k) ∧ w.cell? ⟨w0.heap.size, 1, none⟩ = some (.int .i64 i) ∧ w.cell? ⟨w0.heap.size, 2, none⟩ = some (.int .u64 b) ∧ w.cell? ⟨w0.heap.size, 3, none⟩ = some (.string tx) ∧ w.cell? ⟨w0.heap.size, 4, none⟩ = some (.bool ng) ∧ w.cell? ⟨w0.heap.size, 5, none⟩ = some (.int .i64 y) ∧ w.cell? ⟨w0.heap.size, 6, none⟩ = some (.int .i64 mo) ∧ w.cell? ⟨w0.heap.size, 7, none⟩ = some (.int .i64 d) ∧ w.cell? ⟨w0.heap.size, 8, none⟩ = some (.int .i64 h) ∧ w.cell? ⟨w0.heap.size, 9, none⟩ = some (.int .i64 mi) ∧ w.cell? ⟨w0.heap.size, 10, none⟩ = some (.int .i64 s) ∧ w.cell? ⟨w0.heap.size, 11, none⟩ = some (.int .i64 mc) ∧ w.cell? ⟨w0.heap.size + 1, 0, none⟩ = some (.int .u8 t) ∧ w.cell? ⟨w0.heap.size + 1, 1, none⟩ = some (.bool un) :=
  ⟨vrow_cell H.rv (j := 0) rfl, vrow_cell H.rv (j := 1) rfl, vrow_cell H.rv (j := 2) rfl, vrow_cell H.rv (j := 3) rfl, vrow_cell H.rv (j := 4) rfl, vrow_cell H.rv (j := 5) rfl, vrow_cell H.rv (j := 6) rfl, vrow_cell H.rv (j := 7) rfl, vrow_cell H.rv (j := 8) rfl, vrow_cell H.rv (j := 9) rfl, vrow_cell H.rv (j := 10) rfl, vrow_cell H.rv (j := 11) rfl, vrow_cell H.rt (j := 0) rfl, vrow_cell H.rt (j := 1) rfl⟩

end Go.Proofs.Ytfgghgoonfamkaa
