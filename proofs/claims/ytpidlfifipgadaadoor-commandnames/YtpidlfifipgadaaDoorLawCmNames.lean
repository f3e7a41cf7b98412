/-
  CommandNames: the worked examples of the chapter on commands come out as they are written. Conditions: the library's table of powers of ten reads as its initialiser lays it.
-/
import Derived.Test.YtpidlfifipgadaaDoorCmNm
import Derived.Test.YtpidlfifipgadaaDoorCmAns
namespace Go.Proofs.YtpidlfifipgadaaDoor
open Go.RowKit
set_option linter.unusedVariables false
set_option linter.unusedSimpArgs false

theorem nm_r1 : rdP [14] = (cm0 14, 0) := by kernel_rfl
theorem nm_r2 : rdP [14, 0] = (cm0 0, 5) := by kernel_rfl
theorem nm_r3 : rdP [23, 7, 0, 0, 0, 2] = (cm0 0, 5) := by kernel_rfl
theorem nm_r4 : rdP [] = (cm0 0, 4) := by kernel_rfl
theorem nm_r5 : rdP [25, 1, 2] = (cm0 0, 4) := by kernel_rfl
theorem nm_r6 : rdP [200, 5] = ({ cm0 200 with d := [5] }, 0) := by kernel_rfl
theorem nm_w1 : wsP [25, 1, 0, 0, 0] 9 = (some [25, 9, 0, 0, 0], 0) := by kernel_rfl
theorem nm_w2 : wsP [14] 9 = (none, 2) := by kernel_rfl
theorem nm_3 : nmS 3 = ⟨#[113, 117, 101, 114, 121]⟩ := by kernel_rfl
theorem nm_200 : nmS 200 = ⟨#[99, 111, 109, 109, 97, 110, 100, 45, 50, 48, 48]⟩ := by kernel_rfl

set_option maxHeartbeats 8000000 in
set_option maxRecDepth 100000 in
theorem lawCmNames (w : World) (hv : Vars w) : Calls Tryd.prog 3 #[] w fun e w' => e = .returned (.bool true) ∧ Below w.heap.size w w' := by
  go_enter Tryd.func3, Tryd.ntmps3
  have bl1 := below_alloc w (.cells (([14] : List Int).map (Value.int .u8)).toArray 5)
  have cR := hide (cmRead_any _ _ _ _ _ (Bs.lit w [14] (by intro x hx; simp at hx; omega) (by decide)) (by show 1 ≤ 1099511627776; omega))
  rw [nm_r1] at cR
  have BL1 := hide bl1
  clear bl1
  go_wp2_with fail
  refine (unhide cR).mono ?_
  rintro e w1 ⟨xo1, xn1, xc1, rfl, hx1, _, bx1⟩
  have bs1 := bx1.trans ((below_alloc w1 (.cells ((cm0 14 : Cm).cd xo1 xn1 xc1).row 26)).mono bx1.size)
  have BS1 := hide ((unhide BL1).trans (bs1.mono (unhide BL1).size))
  have R1_1 := hide (heap_alloc_new w1 (.cells ((cm0 14 : Cm).cd xo1 xn1 xc1).row 26))
  clear hx1 bx1 bs1 cR
  have bl2 := below_alloc (w1.alloc (.cells ((cm0 14 : Cm).cd xo1 xn1 xc1).row 26)) (.cells (([14, 0] : List Int).map (Value.int .u8)).toArray 5)
  have cR := hide (cmRead_any _ _ _ _ _ (Bs.lit (w1.alloc (.cells ((cm0 14 : Cm).cd xo1 xn1 xc1).row 26)) [14, 0] (by intro x hx; simp at hx; omega) (by decide)) (by show 2 ≤ 1099511627776; omega))
  rw [show (w1.alloc (.cells ((cm0 14 : Cm).cd xo1 xn1 xc1).row 26)).heap.size = w1.heap.size + 1 by simp] at cR
  rw [nm_r2] at cR
  have BL2 := hide ((unhide BS1).trans (bl2.mono (unhide BS1).size))
  have KL2 := hide bl2
  clear bl2
  go_wp2_with (with_reducible show wpList Tryd.prog _ _ (Oper.mk _ (Op.store 26 _ _) _ _ _ none :: _) _ _; refine wpList_storeN rfl (.tmp 3) (.tmp 21) rfl ((cm0 14 : Cm).cd xo1 xn1 xc1) (by simp [Act.eval, Act.put]) (by simp [Act.eval, Act.put]) rfl ?_)
  refine (unhide cR).mono ?_
  rintro e w2 ⟨xo2, xn2, xc2, rfl, hx2, _, bx2⟩
  have bs2 := bx2.trans ((below_alloc w2 (.cells ((cm0 0 : Cm).cd xo2 xn2 xc2).row 26)).mono bx2.size)
  have BS2 := hide ((unhide BL2).trans (bs2.mono (unhide BL2).size))
  have R1_2 := hide ((bs2.block w1.heap.size (Nat.lt_of_lt_of_le (Array.getElem?_eq_some_iff.1 (unhide R1_1)).1 (unhide KL2).size)).trans (((unhide KL2).block w1.heap.size (Array.getElem?_eq_some_iff.1 (unhide R1_1)).1).trans (unhide R1_1)))
  clear hx2 bx2 bs2 cR
  have bl3 := below_alloc (w2.alloc (.cells ((cm0 0 : Cm).cd xo2 xn2 xc2).row 26)) (.cells (([23, 7, 0, 0, 0, 2] : List Int).map (Value.int .u8)).toArray 5)
  have cR := hide (cmRead_any _ _ _ _ _ (Bs.lit (w2.alloc (.cells ((cm0 0 : Cm).cd xo2 xn2 xc2).row 26)) [23, 7, 0, 0, 0, 2] (by intro x hx; simp at hx; omega) (by decide)) (by show 6 ≤ 1099511627776; omega))
  rw [show (w2.alloc (.cells ((cm0 0 : Cm).cd xo2 xn2 xc2).row 26)).heap.size = w2.heap.size + 1 by simp] at cR
  rw [nm_r3] at cR
  have BL3 := hide ((unhide BS2).trans (bl3.mono (unhide BS2).size))
  have KL3 := hide bl3
  clear bl3
  go_wp2_with (with_reducible show wpList Tryd.prog _ _ (Oper.mk _ (Op.store 26 _ _) _ _ _ none :: _) _ _; refine wpList_storeN rfl (.tmp 5) (.tmp 26) rfl ((cm0 0 : Cm).cd xo2 xn2 xc2) (by simp [Act.eval, Act.put]) (by simp [Act.eval, Act.put]) rfl ?_)
  refine (unhide cR).mono ?_
  rintro e w3 ⟨xo3, xn3, xc3, rfl, hx3, _, bx3⟩
  have bs3 := bx3.trans ((below_alloc w3 (.cells ((cm0 0 : Cm).cd xo3 xn3 xc3).row 26)).mono bx3.size)
  have BS3 := hide ((unhide BL3).trans (bs3.mono (unhide BL3).size))
  have R1_3 := hide ((bs3.block w1.heap.size (Nat.lt_of_lt_of_le (Array.getElem?_eq_some_iff.1 (unhide R1_2)).1 (unhide KL3).size)).trans (((unhide KL3).block w1.heap.size (Array.getElem?_eq_some_iff.1 (unhide R1_2)).1).trans (unhide R1_2)))
  clear hx3 bx3 bs3 cR
  have bl4 := Below.refl ((w3.alloc (.cells ((cm0 0 : Cm).cd xo3 xn3 xc3).row 26))).heap.size (w3.alloc (.cells ((cm0 0 : Cm).cd xo3 xn3 xc3).row 26))
  have cR := hide (cmRead_any none 0 0 [] (w3.alloc (.cells ((cm0 0 : Cm).cd xo3 xn3 xc3).row 26)) (Bs.nought _) (by omega))
  rw [nm_r4] at cR
  have BL4 := hide ((unhide BS3).trans (bl4.mono (unhide BS3).size))
  have KL4 := hide bl4
  clear bl4
  go_wp2_with (with_reducible show wpList Tryd.prog _ _ (Oper.mk _ (Op.store 26 _ _) _ _ _ none :: _) _ _; refine wpList_storeN rfl (.tmp 7) (.tmp 31) rfl ((cm0 0 : Cm).cd xo3 xn3 xc3) (by simp [Act.eval, Act.put]) (by simp [Act.eval, Act.put]) rfl ?_)
  refine (unhide cR).mono ?_
  rintro e w4 ⟨xo4, xn4, xc4, rfl, hx4, _, bx4⟩
  have bs4 := bx4.trans ((below_alloc w4 (.cells ((cm0 0 : Cm).cd xo4 xn4 xc4).row 26)).mono bx4.size)
  have BS4 := hide ((unhide BL4).trans (bs4.mono (unhide BL4).size))
  have R1_4 := hide ((bs4.block w1.heap.size (Nat.lt_of_lt_of_le (Array.getElem?_eq_some_iff.1 (unhide R1_3)).1 (unhide KL4).size)).trans (((unhide KL4).block w1.heap.size (Array.getElem?_eq_some_iff.1 (unhide R1_3)).1).trans (unhide R1_3)))
  clear hx4 bx4 bs4 cR
  have bl5 := below_alloc (w4.alloc (.cells ((cm0 0 : Cm).cd xo4 xn4 xc4).row 26)) (.cells (([25, 1, 2] : List Int).map (Value.int .u8)).toArray 5)
  have cR := hide (cmRead_any _ _ _ _ _ (Bs.lit (w4.alloc (.cells ((cm0 0 : Cm).cd xo4 xn4 xc4).row 26)) [25, 1, 2] (by intro x hx; simp at hx; omega) (by decide)) (by show 3 ≤ 1099511627776; omega))
  rw [show (w4.alloc (.cells ((cm0 0 : Cm).cd xo4 xn4 xc4).row 26)).heap.size = w4.heap.size + 1 by simp] at cR
  rw [nm_r5] at cR
  have BL5 := hide ((unhide BS4).trans (bl5.mono (unhide BS4).size))
  have KL5 := hide bl5
  clear bl5
  go_wp2_with (with_reducible show wpList Tryd.prog _ _ (Oper.mk _ (Op.store 26 _ _) _ _ _ none :: _) _ _; refine wpList_storeN rfl (.tmp 9) (.tmp 35) rfl ((cm0 0 : Cm).cd xo4 xn4 xc4) (by simp [Act.eval, Act.put]) (by simp [Act.eval, Act.put]) rfl ?_)
  refine (unhide cR).mono ?_
  rintro e w5 ⟨xo5, xn5, xc5, rfl, hx5, _, bx5⟩
  have bs5 := bx5.trans ((below_alloc w5 (.cells ((cm0 0 : Cm).cd xo5 xn5 xc5).row 26)).mono bx5.size)
  have BS5 := hide ((unhide BL5).trans (bs5.mono (unhide BL5).size))
  have R1_5 := hide ((bs5.block w1.heap.size (Nat.lt_of_lt_of_le (Array.getElem?_eq_some_iff.1 (unhide R1_4)).1 (unhide KL5).size)).trans (((unhide KL5).block w1.heap.size (Array.getElem?_eq_some_iff.1 (unhide R1_4)).1).trans (unhide R1_4)))
  clear hx5 bx5 bs5 cR
  have bl6 := below_alloc (w5.alloc (.cells ((cm0 0 : Cm).cd xo5 xn5 xc5).row 26)) (.cells (([200, 5] : List Int).map (Value.int .u8)).toArray 5)
  have cR := hide (cmRead_any _ _ _ _ _ (Bs.lit (w5.alloc (.cells ((cm0 0 : Cm).cd xo5 xn5 xc5).row 26)) [200, 5] (by intro x hx; simp at hx; omega) (by decide)) (by show 2 ≤ 1099511627776; omega))
  rw [show (w5.alloc (.cells ((cm0 0 : Cm).cd xo5 xn5 xc5).row 26)).heap.size = w5.heap.size + 1 by simp] at cR
  rw [nm_r6] at cR
  have BL6 := hide ((unhide BS5).trans (bl6.mono (unhide BS5).size))
  have KL6 := hide bl6
  clear bl6
  go_wp2_with (with_reducible show wpList Tryd.prog _ _ (Oper.mk _ (Op.store 26 _ _) _ _ _ none :: _) _ _; refine wpList_storeN rfl (.tmp 11) (.tmp 40) rfl ((cm0 0 : Cm).cd xo5 xn5 xc5) (by simp [Act.eval, Act.put]) (by simp [Act.eval, Act.put]) rfl ?_)
  refine (unhide cR).mono ?_
  rintro e w6 ⟨xo6, xn6, xc6, rfl, hx6, _, bx6⟩
  have bs6 := bx6.trans ((below_alloc w6 (.cells (({ cm0 200 with d := [5] } : Cm).cd xo6 xn6 xc6).row 26)).mono bx6.size)
  have BS6 := hide ((unhide BL6).trans (bs6.mono (unhide BL6).size))
  have R1_6 := hide ((bs6.block w1.heap.size (Nat.lt_of_lt_of_le (Array.getElem?_eq_some_iff.1 (unhide R1_5)).1 (unhide KL6).size)).trans (((unhide KL6).block w1.heap.size (Array.getElem?_eq_some_iff.1 (unhide R1_5)).1).trans (unhide R1_5)))
  have R6_6 := hide (heap_alloc_new w6 (.cells (({ cm0 200 with d := [5] } : Cm).cd xo6 xn6 xc6).row 26))
  have HX6 := hide (show Bs _ xo6 xn6 xc6 [5] from hx6.later (below_alloc w6 (.cells (({ cm0 200 with d := [5] } : Cm).cd xo6 xn6 xc6).row 26)))
  clear hx6 bx6 bs6 cR
  have k0 : (w6.alloc (.cells (({ cm0 200 with d := [5] } : Cm).cd xo6 xn6 xc6).row 26)).cell? ⟨w1.heap.size, 0, none⟩ = some (.int .u8 14) := by rw [cell_of_row _ _ 0 _ _ _ (unhide R1_6)]; rfl
  have k1 : (w6.alloc (.cells (({ cm0 200 with d := [5] } : Cm).cd xo6 xn6 xc6).row 26)).cell? ⟨w6.heap.size, 0, none⟩ = some (.int .u8 200) := by rw [cell_of_row _ _ 0 _ _ _ (unhide R6_6)]; rfl
  have k2 : (w6.alloc (.cells (({ cm0 200 with d := [5] } : Cm).cd xo6 xn6 xc6).row 26)).cell? ⟨w6.heap.size, 7, none⟩ = some (.slice xo6 xn6 xc6) := by rw [cell_of_row _ _ 7 _ _ _ (unhide R6_6)]; rfl
  have z6 : (w6.alloc (.cells (({ cm0 200 with d := [5] } : Cm).cd xo6 xn6 xc6).row 26)).heap.size = w6.heap.size + 1 := by simp
  have b7 := below_alloc (w6.alloc (.cells (({ cm0 200 with d := [5] } : Cm).cd xo6 xn6 xc6).row 26)) (.cells #[.int .u8 5] 5)
  have cS := hide (same_self _ _ _ xo6 xn6 xc6 [5] _ ((unhide HX6).later b7) (Bs.one (w6.alloc (.cells (({ cm0 200 with d := [5] } : Cm).cd xo6 xn6 xc6).row 26)) 5 (by decide) (by decide)))
  rw [z6] at cS
  have B7 := hide ((unhide BS6).trans (b7.mono (unhide BS6).size))
  clear b7
  have z7 : ((w6.alloc (.cells (({ cm0 200 with d := [5] } : Cm).cd xo6 xn6 xc6).row 26)).alloc (.cells #[.int .u8 5] 5)).heap.size = w6.heap.size + 2 := by simp
  have b8 := below_alloc ((w6.alloc (.cells (({ cm0 200 with d := [5] } : Cm).cd xo6 xn6 xc6).row 26)).alloc (.cells #[.int .u8 5] 5)) (.cells (([25, 1, 0, 0, 0] : List Int).map (Value.int .u8)).toArray 5)
  have cW := hide (cmWith_any _ _ _ _ 9 _ (Bs.lit ((w6.alloc (.cells (({ cm0 200 with d := [5] } : Cm).cd xo6 xn6 xc6).row 26)).alloc (.cells #[.int .u8 5] 5)) [25, 1, 0, 0, 0] (by intro x hx; simp at hx; omega) (by decide)) (by show 5 ≤ 1000000; omega) (by decide))
  rw [nm_w1] at cW
  rw [z7] at cW
  have B8 := hide ((unhide B7).trans (b8.mono (unhide B7).size))
  clear b8
  go_wp2_with (first | (with_reducible show wpList Tryd.prog _ _ (Oper.mk _ (Op.store 26 _ _) _ _ _ none :: _) _ _; refine wpList_storeN rfl (.tmp 13) (.tmp 45) rfl (({ cm0 200 with d := [5] } : Cm).cd xo6 xn6 xc6) (by simp [Act.eval, Act.put]) (by simp [Act.eval, Act.put]) rfl ?_) | (go_at_call 6; refine same_world (unhide cS) ?_))
  refine (unhide cW).mono ?_
  rintro e w9 ⟨ao, n, cc, rfl, m9, b9⟩
  have B9 := hide ((unhide B8).trans (b9.mono (unhide B8).size))
  have M9 := hide m9.bs
  clear m9 b9 cW cS k0 k1 k2
  have b10 := below_alloc w9 (.cells (([14] : List Int).map (Value.int .u8)).toArray 5)
  have cV := hide (cmWith_any _ _ _ _ 9 _ (Bs.lit w9 [14] (by intro x hx; simp at hx; omega) (by decide)) (by show 1 ≤ 1000000; omega) (by decide))
  rw [nm_w2] at cV
  have B10 := hide ((unhide B9).trans (b10.mono (unhide B9).size))
  have M10 := hide ((unhide M9).later b10)
  clear b10
  go_wp2_with fail
  refine (unhide cV).mono ?_
  rintro e w11 ⟨rfl, b11⟩
  have B11 := hide ((unhide B10).trans (b11.mono (unhide B10).size))
  have M11 := hide ((unhide M10).later b11)
  clear b11 cV
  have b12 := below_alloc w11 (.cells (([25, 9, 0, 0, 0] : List Int).map (Value.int .u8)).toArray 5)
  have cS := hide (same_self _ _ _ ao n cc [25, 9, 0, 0, 0] _ ((unhide M11).later b12) (Bs.lit w11 [25, 9, 0, 0, 0] (by intro x hx; simp at hx; omega) (by decide)))
  have B12 := hide ((unhide B11).trans (b12.mono (unhide B11).size))
  clear b12
  go_wp2_with (go_at_call 6; refine same_world (unhide cS) ?_)
  refine (cmLives_any _).mono ?_
  rintro e w13 ⟨rfl, b13⟩
  have B13 := hide ((unhide B12).trans (b13.mono (unhide B12).size))
  clear b13 cS
  have cN := hide (name_any 3 w13 (hv.later (unhide B13)) (by decide) (by decide))
  rw [nm_3] at cN
  go_wp2_with fail
  refine (unhide cN).mono ?_
  rintro e w14 ⟨rfl, b14⟩
  have B14 := hide ((unhide B13).trans (b14.mono (unhide B13).size))
  clear b14 cN
  have cN := hide (name_any 200 w14 (hv.later (unhide B14)) (by decide) (by decide))
  rw [nm_200] at cN
  go_wp2_with fail
  refine (unhide cN).mono ?_
  rintro e w15 ⟨rfl, b15⟩
  have B15 := hide ((unhide B14).trans (b15.mono (unhide B14).size))
  clear b15 cN
  have cA := hide (answer_any 24 w15)
  rw [show anP 24 = 1 from rfl] at cA
  go_wp2_with (go_at_call 10; refine same_world (unhide cA) ?_)
  go_ret
  exact ⟨rfl, unhide B15⟩

end Go.Proofs.YtpidlfifipgadaaDoor
