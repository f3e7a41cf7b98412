/-
  What package scan's small functions return for any rune, byte or text. Conditions: none.
-/
import Derived.Test.YtddfbaaghjcbnaaGreatDoorWdMem
import Derived.Test.YtddfbaaghjcbnaaGreatDoorShl
import Derived.BigQuiet
namespace Go.Proofs.YtddfbaaghjcbnaaGreatDoor
open Go.RowKit
set_option linter.unusedVariables false
set_option linter.unusedSimpArgs false

theorem isDigit_any (r : Int) (w : World) : Calls Tryz.prog 69 #[.int .i32 r] w fun e w' => e = .returned (.bool (isD r)) ∧ w' = w := by
  go_enter Tryz.func69, Tryz.ntmps69
  go_wp2_with fail
  all_goals (go_ret; refine ⟨congrArg (fun b => Ending.returned (.bool b)) (Bool.eq_iff_iff.2 ?_), rfl⟩; simp [isD]; try omega)

theorem isLetter_any (r : Int) (w : World) : Calls Tryz.prog 106 #[.int .i32 r] w fun e w' => e = .returned (.bool (isL r)) ∧ w' = w := by
  go_enter Tryz.func106, Tryz.ntmps106
  go_wp2_with fail
  all_goals (go_ret; refine ⟨congrArg (fun b => Ending.returned (.bool b)) (Bool.eq_iff_iff.2 ?_), rfl⟩; simp [isL]; try omega)

theorem isHexDigit_any (r : Int) (w : World) : Calls Tryz.prog 102 #[.int .i32 r] w fun e w' => e = .returned (.bool (isH r)) ∧ w' = w := by
  have c := hide (isDigit_any r w)
  unfold isH
  generalize isD r = D at *
  go_enter Tryz.func102, Tryz.ntmps102
  go_wp2_with (go_at_call 69; refine same_world (unhide c) ?_)
  all_goals (go_ret; refine ⟨congrArg (fun b => Ending.returned (.bool b)) (Bool.eq_iff_iff.2 ?_), rfl⟩; cases D <;> simp_all <;> try omega)

theorem isOfName_any (r : Int) (w : World) : Calls Tryz.prog 68 #[.int .i32 r] w fun e w' => e = .returned (.bool (isN r)) ∧ w' = w := by
  have c := hide (isDigit_any r w)
  have d := hide (isLetter_any r w)
  unfold isN
  generalize isD r = D at *
  generalize isL r = L at *
  go_enter Tryz.func68, Tryz.ntmps68
  go_wp2_with (first | (go_at_call 69; refine same_world (unhide c) ?_) | (go_at_call 106; refine same_world (unhide d) ?_))
  all_goals (go_ret; refine ⟨?_, rfl⟩; simp [*])

theorem isOfSystem_any (r : Int) (w : World) : Calls Tryz.prog 74 #[.int .i32 r] w fun e w' => e = .returned (.bool (isS r)) ∧ w' = w := by
  have c := hide (isOfName_any r w)
  unfold isS
  generalize isN r = D at *
  go_enter Tryz.func74, Tryz.ntmps74
  go_wp2_with (go_at_call 68; refine same_world (unhide c) ?_)
  all_goals (go_ret; refine ⟨congrArg (fun b => Ending.returned (.bool b)) (Bool.eq_iff_iff.2 ?_), rfl⟩; cases D <;> simp_all)

theorem isBlank_any (r : Int) (w : World) : Calls Tryz.prog 58 #[.int .u8 r] w fun e w' => e = .returned (.bool (isB r)) ∧ w' = w := by
  go_enter Tryz.func58, Tryz.ntmps58
  go_wp2_with fail
  all_goals (go_ret; refine ⟨congrArg (fun b => Ending.returned (.bool b)) (Bool.eq_iff_iff.2 ?_), rfl⟩; simp [isB]; try omega)

end Go.Proofs.YtddfbaaghjcbnaaGreatDoor
