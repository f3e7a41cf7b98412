/-
  Bytes that are written out, and the tables in later worlds. Conditions: none.
-/
import Derived.Test.YtnoabdafmgmenaaGreatDoorMZlb2
import Derived.Test.YtnoabdafmgmenaaGreatDoorMMem
namespace Go.Proofs.YtnoabdafmgmenaaGreatDoor
open Go.RowKit
set_option linter.unusedVariables false
set_option linter.unusedSimpArgs false

theorem byt8 {l : List Int} (h : l.all (fun x => decide (0 ≤ x) && decide (x ≤ 255)) = true) : Byt l := by
  intro x hx
  have := List.all_eq_true.1 h x hx
  simpa using this
theorem Vars.low {w w' : World} (h : Vars w) (hb : Below w.heap.size w w') : Vars w' := h.later (Nat.le_refl 3) (hb.mono h.size)
/-- Are bytes those that are written out? -/
theorem same_lit (w : World) (ao : Option Addr) (n c : Nat) (l : List Int) (hb : Bs w ao n c l) (C : Array Value) (hC : C = (l.map (Value.int .u8)).toArray) (h : Byt l) (hl : l.length ≤ 1000) (k : Nat) (hk : k = l.length) :
    Calls Tryz.prog 12 #[.slice ao n c, .slice (some ⟨w.heap.size, 0, none⟩) k k] (w.alloc (.cells C 5)) fun e w' => e = .returned (.bool true) ∧ Below w.heap.size w w' := by
  subst hC hk
  refine (sameBytes_any ao n c l _ _ _ l _ (hb.later (below_alloc w _)) (Bs.lit w l h hl)).mono ?_
  rintro e w' ⟨rfl, rfl⟩
  exact ⟨by simp, below_alloc w _⟩
end Go.Proofs.YtnoabdafmgmenaaGreatDoor
