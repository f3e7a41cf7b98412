/-
  A whole struct stored at a step of a region that draws its order; what stands of a value, a type and bytes through a walk. Conditions: none.
-/
import Derived.Test.YtfgghgoonfamkaaVaRd6
import Derived.Test.YtfgghgoonfamkaaRyMem
import Derived.Deep.RegionHeld3
import Derived.Deep.CutRange
import Derived.Deep.DeepCutAuto
import Derived.BigQuiet
namespace Go.Proofs.Ytfgghgoonfamkaa
open Go.RowKit
set_option linter.unusedVariables false
set_option linter.unusedSimpArgs false

theorem step_stG {ops : Array Oper} {o : Oper} {a : Act} {w : World} {K : Act → World → Prop} {Q : Exit → Act → World → Prop} {G : Prop} (hgd : o.guard = none) (T : TypeId) (x y : Operand) (ho : o.op = .store T x y)
    (g : Nat) (cs c0 : Array Value) (hx : a.eval x = .pointer (some ⟨g, 0, none⟩)) (hy : a.eval y = .agg cs) (hg : w.heap[g]? = some (.cells c0 T (0, 0))) (hi : (Try.prog.info? T).map (·.size) = some cs.size) (h8 : c0.size = cs.size) (h1 : cs.all (·.oneCell') = true)
    (h : ∀ w1, w1.heap[g]? = some (.cells cs T (0, 0)) → Gb g w w1 → K (a.put o.dst undef) w1) : if Region.wanted o (yielded ops a.tmps) = true then Oper.wp Try.prog o a w K Q else G := by
  have hw : Region.wanted o (yielded ops a.tmps) = true := by simp [Region.wanted, hgd]
  rw [if_pos hw]
  exact wp_store_row T x y ho g cs hx hy _ c0 hg hi h8 h1 (h _ (setRow_heap w g _ _ _ _ hg) ⟨rfl, rfl, rfl, by simp, fun j _ hj => setRow_other w g j _ hj⟩)
theorem nqv' (p q : Va) (w : World) : (binOp .neq 32 (.agg (vaC p)) (.agg (vaC q))).run Try.prog w = .ok (.bool (!decide (p = q))) w := by
  have h := eqv p q w
  rw [run_eql_struct] at h
  rw [run_neq_struct]
  generalize (Op.equalIn 10000 32 (.agg (vaC p)) (.agg (vaC q))).run Try.prog w = X at h ⊢
  cases X <;> simp_all [Result.andThen]
theorem below_gb {w0 w w' : World} {B g : Nat} (hb : Below B w0 w) (h : Gb g w w') (hg : B ≤ g) (hs : B ≤ w.heap.size) : Below B w0 w' :=
  hb.trans ⟨h.os, h.tape, h.output, h.size, fun k hk => h.block k (by omega) (by omega)⟩
theorem below_sets12 {w0 w : World} {B g : Nat} {v0 v1 v2 v3 v4 v5 v6 v7 v8 v9 v10 v11 : Value} (h : Below B w0 w) (hg : B ≤ g) (hs : B ≤ w.heap.size) : Below B w0 ((((((((((((w.setCell ⟨g, 0, none⟩ v0).setCell ⟨g, 1, none⟩ v1).setCell ⟨g, 2, none⟩ v2).setCell ⟨g, 3, none⟩ v3).setCell ⟨g, 4, none⟩ v4).setCell ⟨g, 5, none⟩ v5).setCell ⟨g, 6, none⟩ v6).setCell ⟨g, 7, none⟩ v7).setCell ⟨g, 8, none⟩ v8).setCell ⟨g, 9, none⟩ v9).setCell ⟨g, 10, none⟩ v10).setCell ⟨g, 11, none⟩ v11) := by
  have q : Gb g w ((((((((((((w.setCell ⟨g, 0, none⟩ v0).setCell ⟨g, 1, none⟩ v1).setCell ⟨g, 2, none⟩ v2).setCell ⟨g, 3, none⟩ v3).setCell ⟨g, 4, none⟩ v4).setCell ⟨g, 5, none⟩ v5).setCell ⟨g, 6, none⟩ v6).setCell ⟨g, 7, none⟩ v7).setCell ⟨g, 8, none⟩ v8).setCell ⟨g, 9, none⟩ v9).setCell ⟨g, 10, none⟩ v10).setCell ⟨g, 11, none⟩ v11) := (((((((((((((Gb.refl g w).set 0 v0).set 1 v1).set 2 v2).set 3 v3).set 4 v4).set 5 v5).set 6 v6).set 7 v7).set 8 v8).set 9 v9).set 10 v10).set 11 v11)
  exact below_gb h q hg hs
theorem run_cells (w : World) (g : Nat) (T : TypeId) (old CS : Array Value) (hg : w.heap[g]? = some (.cells old T (0, 0))) (ho : old.size = CS.size) (h1 : CS.all (·.oneCell') = true) : Sem.run Try.prog (storeCells ⟨g, 0, none⟩ CS.toList) w = .ok () (w.setRow g CS) := by
  have := run_storeCells_from (P := Try.prog) g T CS.toList 0 old w hg (by simp; omega) (fun v hv => (Array.all_eq_true_iff_forall_mem.1 h1) v (by simpa using hv))
  simpa using this
/-- A struct stored whole, in the place of another: what then stands. -/
theorem st_old (w0 w : World) (B g : Nat) (T : TypeId) (old CS : Array Value) (hg : w.heap[g]? = some (.cells old T (0, 0))) (ho : old.size = CS.size) (h1 : CS.all (·.oneCell') = true) (hb : Below B w0 w) (hB : B ≤ g) (hs : B ≤ w.heap.size) : ∃ wS, Sem.run Try.prog (storeCells ⟨g, 0, none⟩ CS.toList) w = .ok () wS ∧ wS.heap[g]? = some (.cells CS T (0, 0)) ∧ Below B w0 wS :=
  ⟨_, run_cells w g T old CS hg ho h1, setRow_heap w g _ _ _ _ hg, below_gb hb ⟨rfl, rfl, rfl, by simp, fun j _ hj => setRow_other w g j _ hj⟩ hB hs⟩
/-- .. in a block that was just made. -/
theorem st_new (w0 w : World) (B : Nat) (T : TypeId) (old CS : Array Value) (ho : old.size = CS.size) (h1 : CS.all (·.oneCell') = true) (hb : Below B w0 w) (hs : B ≤ w.heap.size) : ∃ wS, Sem.run Try.prog (storeCells ⟨w.heap.size, 0, none⟩ CS.toList) (w.alloc (.cells old T)) = .ok () wS ∧ wS.heap[w.heap.size]? = some (.cells CS T (0, 0)) ∧ Below B w0 wS :=
  st_old w0 (w.alloc (.cells old T)) B w.heap.size T old CS (heap_alloc_new w _) ho h1 (hb.trans ((below_alloc w _).mono hs)) hs (Nat.le_trans hs (below_alloc w _).size)
theorem vmine_row0 {B : Nat} {w : World} {g : Nat} (h : w.heap[g]? = some (.cells #[] 5 (0, 0))) (hg : B ≤ g) : Mine B w (some ⟨g, 0, none⟩) 0 0 [] :=
  ⟨rfl, ⟨rfl, .inr ⟨g, 0, #[], rfl, hg, h, Nat.le_refl _, by unfold maxLen; omega, rfl, rfl⟩⟩, Byt.nil⟩


end Go.Proofs.Ytfgghgoonfamkaa
