/-
  ColumnNames walked: the worked examples of the chapter on columns come out as they are written. Conditions: the library's table of powers of ten reads as its initialiser lays it.
-/
import Derived.Test.YtgdjeooiimjjcaaDoorClNd
import Derived.Test.YtgdjeooiimjjcaaDoorClLives
import Derived.Deep.RegionHeld3
namespace Go.Proofs.YtgdjeooiimjjcaaDoor
open Go.RowKit
set_option linter.unusedVariables false
set_option linter.unusedSimpArgs false

theorem nm_8 : nmS 8 = ⟨#[108, 111, 110, 103, 45, 108, 111, 110, 103]⟩ := by kernel_rfl
theorem nm_14 : nmS 14 = ⟨#[116, 121, 112, 101, 45, 49, 52]⟩ := by kernel_rfl
theorem kn_14 : kn 14 = false := by kernel_rfl
theorem ct_1 : ctR [252, 1, 0] = (0, 5) := by kernel_rfl
theorem ct_2 : ctR [1, 0] = (0, 5) := by kernel_rfl
theorem ct_3 : ctR [] = (0, 4) := by kernel_rfl

set_option maxHeartbeats 4000000 in
set_option maxRecDepth 100000 in
theorem lawClNames (w : World) (hv : Vars w) : Calls Tryd.prog 3 #[] w fun e w' => e = .returned (.bool true) ∧ Below w.heap.size w w' := by
  have cA := hide (count_lit 1 [1] (by kernel_rfl) (by kernel_rfl) 1 rfl w)
  have HV := hide hv
  clear hv
  go_enter Tryd.func3, Tryd.ntmps3
  go_wp2_with fail
  refine (unhide cA).mono ?_
  rintro e w1 ⟨a1, c1, rfl, m1, b1⟩
  have cB := hide (appendCount_any none 0 0 [] 0 w1 (Bs.nought w1) (by decide))
  rw [if_neg (show ¬ nOk 0 = true by decide)] at cB
  have B1 := hide b1
  have M1 := hide m1.bs
  clear b1 m1 cA
  go_wp2_with fail
  refine (unhide cB).mono ?_
  rintro e w2 ⟨rfl, b2⟩
  have B2 := hide (bup (unhide B1) b2)
  have M2 := hide ((unhide M1).later b2)
  have lb := Bs.lit w2 [252, 1, 0] (by intro x hx; simp at hx; omega) (by decide)
  have cC := hide (readCount_any (some ⟨w2.heap.size, 0, none⟩) 3 3 [252, 1, 0] _ lb)
  rw [ct_1] at cC
  obtain ⟨w3, hw3⟩ : ∃ z, z = w2.alloc (.cells #[.int .u8 252, .int .u8 1, .int .u8 0] 5) := ⟨_, rfl⟩
  have b3 := below_alloc w2 (.cells #[.int .u8 252, .int .u8 1, .int .u8 0] 5)
  rw [← hw3] at b3
  have B3 := hide (bup (unhide B2) b3)
  have M3 := hide ((unhide M2).later b3)
  have HW3 := hide hw3
  clear b2 cB B1 M1 lb b3 B2 M2 hw3
  go_wp2_with fail
  refine same_world (unhide cC) ?_
  rw [show w2.alloc _ = w3 from (unhide HW3).symm]
  clear cC HW3
  have lb := Bs.lit w3 [1, 0] (by intro x hx; simp at hx; omega) (by decide)
  have cC := hide (readCount_any (some ⟨w3.heap.size, 0, none⟩) 2 2 [1, 0] _ lb)
  rw [ct_2] at cC
  obtain ⟨w4, hw4⟩ : ∃ z, z = w3.alloc (.cells #[.int .u8 1, .int .u8 0] 5) := ⟨_, rfl⟩
  have b4 := below_alloc w3 (.cells #[.int .u8 1, .int .u8 0] 5)
  rw [← hw4] at b4
  have B4 := hide (bup (unhide B3) b4)
  have M4 := hide ((unhide M3).later b4)
  have HW4 := hide hw4
  clear lb b4 B3 M3 hw4
  go_wp2_with fail
  refine same_world (unhide cC) ?_
  rw [show w3.alloc _ = w4 from (unhide HW4).symm]
  clear cC HW4
  have cC := hide (readCount_any none 0 0 [] w4 (Bs.nought w4))
  rw [ct_3] at cC
  go_wp2_with fail
  refine same_world (unhide cC) ?_
  clear cC
  have cL := hide (lives_any w4)
  go_wp2_with fail
  refine (unhide cL).mono ?_
  rintro e w5 ⟨rfl, b5⟩
  have B5 := hide (bup (unhide B4) b5)
  have M5 := (unhide M4).later b5
  have b6 := below_alloc w5 (.cells #[.int .u8 1] 5)
  have cS := hide (sameBytes_any a1 1 c1 [1] (some ⟨w5.heap.size, 0, none⟩) 1 1 [1] _ (M5.later b6) (Bs.one w5 1 (by omega) (by omega)))
  rw [decide_eq_true rfl] at cS
  have B6 := hide (bup (unhide B5) b6)
  have HV6 := hide ((unhide HV).later (unhide B6))
  clear b5 cL B4 M4 M5 b6 B5
  go_wp2_with fail
  refine same_world (unhide cS) ?_
  have cN := hide (name_any 8 (w5.alloc (.cells #[.int .u8 1] 5)) (unhide HV6) (by omega) (by omega))
  rw [nm_8] at cN
  clear cS
  go_wp2_with fail
  refine (unhide cN).mono ?_
  rintro e w7 ⟨rfl, b7⟩
  have B7 := hide (bup (unhide B6) b7)
  have HV7 := hide ((unhide HV).later (unhide B7))
  have cN2 := hide (name_any 14 w7 (unhide HV7) (by omega) (by omega))
  rw [nm_14] at cN2
  clear cN b7 B6 HV6
  go_wp2_with fail
  refine (unhide cN2).mono ?_
  rintro e w8 ⟨rfl, b8⟩
  have B8 := hide (bup (unhide B7) b8)
  have cK := hide (known_any 14 w8 (by omega) (by omega))
  rw [kn_14] at cK
  clear cN2 b8 B7 HV7
  go_wp2_with fail
  refine (unhide cK).mono ?_
  rintro e w9 ⟨rfl, b9⟩
  have B9 := hide (bup (unhide B8) b9)
  clear b9 cK B8
  go_wp2_with fail
  go_ret
  exact ⟨rfl, unhide B9⟩

end Go.Proofs.YtgdjeooiimjjcaaDoor
