/-
  InflateNames: the worked examples of the chapter on compressed streams come out as they are written. Conditions: the tables hold what the program's text says.
-/
import Derived.Test.YtdpkemnklfnipaaDoorInfLives
namespace Go.Proofs.YtdpkemnklfnipaaDoor
open Go.RowKit
set_option linter.unusedVariables false
set_option linter.unusedSimpArgs false

theorem ex3 : infR (infS 100000 [3, 0] 0) = ([], 2, 0) := by kernel_rfl
theorem ex4 : infR (infS 100000 [75, 4, 0] 1) = ([97], 3, 0) := by kernel_rfl
theorem ex5 : infR (infS 100000 [75, 4] 1) = ([], 0, 4) := by kernel_rfl
theorem ex6 : infR (infS 100000 [1, 2, 0, 253, 255, 97, 98] 1) = ([], 0, 3) := by kernel_rfl
theorem ex7 : infR (infS 100000 [7] 1) = ([], 0, 5) := by kernel_rfl
theorem ex8 : infR (infS 100000 [1, 2, 0, 0, 0, 97, 98] 100) = ([], 0, 5) := by kernel_rfl
theorem fix143 : fixL[143]?.getD 0 = 8 := by decide
theorem fix144 : fixL[144]?.getD 0 = 9 := by decide
theorem fix256 : fixL[256]?.getD 0 = 7 := by decide
theorem fix280 : fixL[280]?.getD 0 = 8 := by decide
theorem fix31 : fixD[31]?.getD 0 = 5 := by decide

set_option maxHeartbeats 4000000 in
set_option maxRecDepth 20000 in
theorem lawInfNames (w : World) (hv : Vars w) : Calls Tryd.prog 3 #[] w fun e w' => e = .returned (.bool true) ∧ Below w.heap.size w w' := by
  have HV := hide hv
  have h3 := hv.size
  clear hv
  have st4 := hide (show strOfNums [97] = { data := #[97] } by kernel_rfl)
  go_enter Tryd.func3, Tryd.ntmps3
  go_wp2_with fail
  refine (inf_lit w (unhide HV) _ [3, 0] rfl (l8 (by decide)) (by decide) 2 rfl 0 (by decide) (by decide) _ ex3).mono ?_
  rintro e w1 ⟨a1, n1, k1, rfl, i1, b1⟩
  have e1 : n1 = 0 := i1.len.symm
  subst e1
  clear i1
  have z1 := b1.size
  have V1 := hide ((unhide HV).later (Nat.le_refl 3) (b1.mono h3))
  go_wp2_with fail
  refine (inf_lit w1 (unhide V1) _ [75, 4, 0] rfl (l8 (by decide)) (by decide) 3 rfl 1 (by decide) (by decide) _ ex4).mono ?_
  rintro e w2 ⟨a2, n2, k2, rfl, i2, b2⟩
  have h2 := i2.str
  simp only [unhide st4] at h2
  clear i2
  have bb2 := b1.trans (b2.mono z1)
  have z2 := bb2.size
  have V2 := hide ((unhide HV).later (Nat.le_refl 3) (bb2.mono h3))
  clear b1 b2
  go_wp2_with fail
  refine (inf_lit w2 (unhide V2) _ [75, 4] rfl (l8 (by decide)) (by decide) 2 rfl 1 (by decide) (by decide) _ ex5).mono ?_
  rintro e w3 ⟨a3, n3, k3, rfl, i3, b3⟩
  have bb3 := bb2.trans (b3.mono z2)
  have z3 := bb3.size
  have V3 := hide ((unhide HV).later (Nat.le_refl 3) (bb3.mono h3))
  clear i3 b3 bb2 h2
  go_wp2_with fail
  refine (inf_lit w3 (unhide V3) _ [1, 2, 0, 253, 255, 97, 98] rfl (l8 (by decide)) (by decide) 7 rfl 1 (by decide) (by decide) _ ex6).mono ?_
  rintro e w4 ⟨a4, n4, k4, rfl, i4, b4⟩
  have bb4 := bb3.trans (b4.mono z3)
  have z4 := bb4.size
  have V4 := hide ((unhide HV).later (Nat.le_refl 3) (bb4.mono h3))
  clear i4 b4 bb3
  go_wp2_with fail
  refine (inf_lit w4 (unhide V4) _ [7] rfl (l8 (by decide)) (by decide) 1 rfl 1 (by decide) (by decide) _ ex7).mono ?_
  rintro e w5 ⟨a5, n5, k5, rfl, i5, b5⟩
  have bb5 := bb4.trans (b5.mono z4)
  have z5 := bb5.size
  have V5 := hide ((unhide HV).later (Nat.le_refl 3) (bb5.mono h3))
  clear i5 b5 bb4
  go_wp2_with fail
  refine (inf_lit w5 (unhide V5) _ [1, 2, 0, 0, 0, 97, 98] rfl (l8 (by decide)) (by decide) 7 rfl 100 (by decide) (by decide) _ ex8).mono ?_
  rintro e w6 ⟨a6, n6, k6, rfl, i6, b6⟩
  have bb6 := bb5.trans (b6.mono z5)
  have z6 := bb6.size
  have V6 := hide ((unhide HV).later (Nat.le_refl 3) (bb6.mono h3))
  clear i6 b6 bb5
  go_wp2_with fail
  refine (fixed_any w6).mono ?_
  rintro e w7 ⟨lo, lc, d, dc, B, rfl, hB, ml, md, b7⟩
  have bb7 := bb6.trans (b7.mono z6)
  have z7 := bb7.size
  have V7 := hide ((unhide HV).later (Nat.le_refl 3) (bb7.mono h3))
  have ML := hide ml
  have MD := hide md
  clear ml md bb6
  go_wp2_with fail
  refine (lives_any w7 (unhide V7)).mono ?_
  rintro e w8 ⟨rfl, b8⟩
  have bb8 := bb7.trans (b8.mono z7)
  have IL := ((unhide ML).is).later b8
  have ID := ((unhide MD).is).later b8
  obtain ⟨p1, o1, x1, y1⟩ := IL.idx (show 143 < 288 by omega) 143 rfl
  obtain ⟨p2, o2, x2, y2⟩ := IL.idx (show 144 < 288 by omega) 144 rfl
  obtain ⟨p3, o3, x3, y3⟩ := IL.idx (show 256 < 288 by omega) 256 rfl
  obtain ⟨p4, o4, x4, y4⟩ := IL.idx (show 280 < 288 by omega) 280 rfl
  obtain ⟨p5, o5, x5, y5⟩ := ID.idx (show 31 < 32 by omega) 31 rfl
  rw [fix143] at y1
  rw [fix144] at y2
  rw [fix256] at y3
  rw [fix280] at y4
  rw [fix31] at y5
  clear IL ID
  go_wp2_with fail
  go_ret
  exact ⟨rfl, bb8⟩

end Go.Proofs.YtdpkemnklfnipaaDoor
