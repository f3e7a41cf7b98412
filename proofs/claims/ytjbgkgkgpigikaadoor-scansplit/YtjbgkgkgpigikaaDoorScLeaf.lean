/-
  What package scan's small functions return for any rune, byte or text. Conditions: none.
-/
import Derived.Test.YtjbgkgkgpigikaaDoorWdMem
import Derived.Test.YtjbgkgkgpigikaaDoorShl
import Derived.BigQuiet
namespace Go.Proofs.YtjbgkgkgpigikaaDoor
open Go.RowKit
set_option linter.unusedVariables false
set_option linter.unusedSimpArgs false

theorem isDigit_any (r : Int) (w : World) : Calls Tryd.prog 34 #[.int .i32 r] w fun e w' => e = .returned (.bool (isD r)) ∧ w' = w := by
  go_enter Tryd.func34, Tryd.ntmps34
  go_wp2_with fail
  all_goals (go_ret; refine ⟨congrArg (fun b => Ending.returned (.bool b)) (Bool.eq_iff_iff.2 ?_), rfl⟩; simp [isD]; try omega)

theorem isLetter_any (r : Int) (w : World) : Calls Tryd.prog 48 #[.int .i32 r] w fun e w' => e = .returned (.bool (isL r)) ∧ w' = w := by
  go_enter Tryd.func48, Tryd.ntmps48
  go_wp2_with fail
  all_goals (go_ret; refine ⟨congrArg (fun b => Ending.returned (.bool b)) (Bool.eq_iff_iff.2 ?_), rfl⟩; simp [isL]; try omega)

theorem isHexDigit_any (r : Int) (w : World) : Calls Tryd.prog 44 #[.int .i32 r] w fun e w' => e = .returned (.bool (isH r)) ∧ w' = w := by
  have c := hide (isDigit_any r w)
  unfold isH
  generalize isD r = D at *
  go_enter Tryd.func44, Tryd.ntmps44
  go_wp2_with (go_at_call 34; refine same_world (unhide c) ?_)
  all_goals (go_ret; refine ⟨congrArg (fun b => Ending.returned (.bool b)) (Bool.eq_iff_iff.2 ?_), rfl⟩; cases D <;> simp_all <;> try omega)

theorem isOfName_any (r : Int) (w : World) : Calls Tryd.prog 33 #[.int .i32 r] w fun e w' => e = .returned (.bool (isN r)) ∧ w' = w := by
  have c := hide (isDigit_any r w)
  have d := hide (isLetter_any r w)
  unfold isN
  generalize isD r = D at *
  generalize isL r = L at *
  go_enter Tryd.func33, Tryd.ntmps33
  go_wp2_with (first | (go_at_call 34; refine same_world (unhide c) ?_) | (go_at_call 48; refine same_world (unhide d) ?_))
  all_goals (go_ret; refine ⟨?_, rfl⟩; simp [*])

theorem isOfSystem_any (r : Int) (w : World) : Calls Tryd.prog 39 #[.int .i32 r] w fun e w' => e = .returned (.bool (isS r)) ∧ w' = w := by
  have c := hide (isOfName_any r w)
  unfold isS
  generalize isN r = D at *
  go_enter Tryd.func39, Tryd.ntmps39
  go_wp2_with (go_at_call 33; refine same_world (unhide c) ?_)
  all_goals (go_ret; refine ⟨congrArg (fun b => Ending.returned (.bool b)) (Bool.eq_iff_iff.2 ?_), rfl⟩; cases D <;> simp_all)

theorem isBlank_any (r : Int) (w : World) : Calls Tryd.prog 23 #[.int .u8 r] w fun e w' => e = .returned (.bool (isB r)) ∧ w' = w := by
  go_enter Tryd.func23, Tryd.ntmps23
  go_wp2_with fail
  all_goals (go_ret; refine ⟨congrArg (fun b => Ending.returned (.bool b)) (Bool.eq_iff_iff.2 ?_), rfl⟩; simp [isB]; try omega)

end Go.Proofs.YtjbgkgkgpigikaaDoor
