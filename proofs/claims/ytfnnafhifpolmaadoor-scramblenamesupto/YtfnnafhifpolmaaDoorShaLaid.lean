/-
  What the listed variable gives the walks: the cells of the table of constants; and a world in which it lies as the program's own text lays it. Conditions: none.
-/
import Derived.Test.YtfnnafhifpolmaaDoorShaMix2
import Derived.ProofKit
import Derived.LaidMore
import Derived.OpenShut
import Derived.Stop.Joined
import Derived.Lib.LaidTab
namespace Go.Proofs.YtfnnafhifpolmaaDoor
open Go.RowKit
set_option linter.unusedVariables false
set_option linter.unusedSimpArgs false

theorem gRoots : Tryd.prog.globalNamed "sluicegate/sha.roots" = some 0 := by kernel_rfl
theorem tRoots : (Tryd.prog.globals[0]?).map (·.type) = some 73 := by kernel_rfl

/-- The variable that the rows list. -/
def laid1 : List (String × DataW Unit) := [("sluicegate/sha.roots", Rows.laid_sluicegate_sha_roots)]

set_option maxRecDepth 100000 in
theorem door_met (os : Os) (args : Array Value) : laidMetH Tryd.prog laid1 ((World.doorLaid Tryd.prog 400 os).forCall (fun _ _ => 0) ⟨#[], args, []⟩).memory :=
  laidMetH_of_parts3 (fuel := 8) (laidMet_of_run' 8 (by kernel_rfl) (by kernel_rfl)) (by kernel_rfl) (by kernel_rfl)

theorem rootsD : (Rows.laid_sluicegate_sha_roots : DataW Unit) = Lib.tabData .u32 kk := rfl

theorem vars_of_laid {W : World} (h : laidMetH Tryd.prog laid1 W) : Vars W := by
  rw [MakeChecks.laidMetH_plain _ _ _ (by kernel_rfl)] at h
  obtain ⟨ps, ⟨g0, t0, cs0, f0, p0, q0, hg0, ht0, hv0, hd0, _, _⟩, _, _⟩ := h
  obtain rfl := Option.some.inj (gRoots.symm.trans hg0)
  obtain rfl := Option.some.inj (tRoots.symm.trans ht0)
  rw [rootsD] at hd0
  have s0 := Lib.cells_of_tab Tryd.underlying73 Tryd.underlying47 (by kernel_rfl) (by kernel_rfl) hd0
  have hl : kk.length = 64 := rfl
  have key : ∀ i, i < 64 → W.cell? ⟨0, i, none⟩ = some (.int .u32 (ix kk i)) := by
    intro i hi
    rw [World.var?_cell hg0 hv0 i, ← Array.getElem?_toList, s0]
    simp [ix, List.getElem?_eq_getElem (show i < kk.length by omega)]
  refine ⟨key, ?_⟩
  have h2 := key 0 (by omega)
  rcases Nat.lt_or_ge 0 W.heap.size with q | q
  · exact q
  · simp [World.cell?, Array.getElem?_eq_none q] at h2

end Go.Proofs.YtfnnafhifpolmaaDoor
