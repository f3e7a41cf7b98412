/-
  The law ShaNames returns true: the chapter's worked examples come out as they are written. Conditions: the table of constants holds what the program's text says.
-/
import Derived.Test.YtcjhgpgdhbbgbaaDoorShaLives
namespace Go.Proofs.YtcjhgpgdhbbgbaaDoor
open Go.RowKit
set_option linter.unusedVariables false
set_option linter.unusedSimpArgs false

theorem sx3 : strOfNums (hexl (sumk 1 [])) = { data := #[100, 97, 51, 57, 97, 51, 101, 101, 53, 101, 54, 98, 52, 98, 48, 100, 51, 50, 53, 53, 98, 102, 101, 102, 57, 53, 54, 48, 49, 56, 57, 48, 97, 102, 100, 56, 48, 55, 48, 57] } := by kernel_rfl
theorem sx4 : strOfNums (hexl (sumk 2 [])) = { data := #[101, 51, 98, 48, 99, 52, 52, 50, 57, 56, 102, 99, 49, 99, 49, 52, 57, 97, 102, 98, 102, 52, 99, 56, 57, 57, 54, 102, 98, 57, 50, 52, 50, 55, 97, 101, 52, 49, 101, 52, 54, 52, 57, 98, 57, 51, 52, 99, 97, 52, 57, 53, 57, 57, 49, 98, 55, 56, 53, 50, 98, 56, 53, 53] } := by kernel_rfl

set_option maxHeartbeats 4000000 in
set_option maxRecDepth 20000 in
theorem lawShaNames (w : World) (hv : Vars w) : Calls Tryd.prog 3 #[] w fun e w' => e = .returned (.bool true) ∧ Below w.heap.size w w' := by
  have HV := hide hv
  have nc := hide (new_other 3 w (by decide) (by decide))
  have lc := hide (shalives_any w hv)
  clear hv
  go_enter Tryd.func3, Tryd.ntmps3
  go_wp2_with fail
  refine same_world (unhide nc) ?_
  go_wp2_with fail
  refine (unhide lc).mono ?_
  rintro e w1 ⟨rfl, b1⟩
  have B1 := hide b1
  have u1 := hide (sum1_any none 0 0 [] w1 (Bs.nought w1) ((unhide HV).low b1) (by omega))
  clear b1 nc lc
  go_wp2_with fail
  refine (unhide u1).mono ?_
  rintro e w2 ⟨a2, n2, c2, rfl, i2, b2⟩
  have hx := hide (hex_any a2 n2 c2 _ w2 i2.bs (by have := i2.len; have := sumk_le 1 []; omega))
  rw [sx3] at hx
  have B2 := hide ((unhide B1).trans (b2.mono (unhide B1).size))
  clear i2 b2 u1 B1
  go_wp2_with fail
  refine (unhide hx).mono ?_
  rintro e w3 ⟨rfl, b3⟩
  have B3 := hide ((unhide B2).trans (b3.mono (unhide B2).size))
  have u2 := hide (sum256_any none 0 0 [] w3 (Bs.nought w3) ((unhide HV).low (unhide B3)) (by omega))
  clear b3 hx B2
  go_wp2_with fail
  refine (unhide u2).mono ?_
  rintro e w4 ⟨a4, n4, c4, rfl, i4, b4⟩
  have hx := hide (hex_any a4 n4 c4 _ w4 i4.bs (by have := i4.len; have := sumk_le 2 []; omega))
  rw [sx4] at hx
  have B4 := hide ((unhide B3).trans (b4.mono (unhide B3).size))
  clear i4 b4 u2 B3
  go_wp2_with fail
  refine (unhide hx).mono ?_
  rintro e w5 ⟨rfl, b5⟩
  have B5 := hide ((unhide B4).trans (b5.mono (unhide B4).size))
  clear b5 hx B4
  go_wp2_with fail
  go_ret
  exact ⟨rfl, unhide B5⟩
end Go.Proofs.YtcjhgpgdhbbgbaaDoor
