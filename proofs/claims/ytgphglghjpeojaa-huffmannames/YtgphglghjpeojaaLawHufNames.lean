/-
  The statement on chapter 3's examples returns true, and writes nothing that was there. Conditions: none.
-/
import Derived.Test.YtgphglghjpeojaaHufLives
namespace Go.Proofs.Ytgphglghjpeojaa
open Go.RowKit
set_option linter.unusedVariables false
set_option linter.unusedSimpArgs false

set_option maxHeartbeats 8000000 in
set_option maxRecDepth 20000 in
theorem lawNames (w : World) : Calls Try.prog 3 #[] w fun e w' => e = .returned (.bool true) ∧ Below w.heap.size w w' := by
  have f0 := hide (show whole ([1, 1] : List Int) = true by decide +kernel)
  have g0 := hide (show cer ([1, 1] : List Int) = 0 by decide +kernel)
  have f1 := hide (show whole ([1, 2] : List Int) = false by decide +kernel)
  have g1 := hide (show cer ([1, 2] : List Int) = 0 by decide +kernel)
  have f2 := hide (show whole ([1, 1, 1] : List Int) = false by decide +kernel)
  have g2 := hide (show cer ([1, 1, 1] : List Int) = 7 by decide +kernel)
  have f3 := hide (show whole ([16] : List Int) = false by decide +kernel)
  have g3 := hide (show cer ([16] : List Int) = 2 by decide +kernel)
  have f4 := hide (show whole ([] : List Int) = false by decide +kernel)
  have g4 := hide (show cer ([] : List Int) = 0 by decide +kernel)
  have r0 := hide (show rdq ([1, 2, 2] : List Int) ([26] : List Int) 0 = (0, 1, 0) by decide +kernel)
  have r1 := hide (show rdq ([1, 2, 2] : List Int) ([26] : List Int) 3 = (2, 2, 0) by decide +kernel)
  have r2 := hide (show rdq ([1, 2, 2] : List Int) ([26] : List Int) 8 = (0, 0, 4) by decide +kernel)
  have r3 := hide (show rdq ([0, 2] : List Int) ([255] : List Int) 0 = (0, 0, 5) by decide +kernel)
  have r4 := hide (show rdq ([0, 0] : List Int) ([] : List Int) 0 = (0, 0, 5) by decide +kernel)
  go_enter Try.func3, Try.ntmps3
  go_wp2_with fail
  have cc := check_any _ _ _ _ _ (lit_is (w := w) (w' := w.alloc (.cells #[.int .i64 1, .int .i64 1] 3)) [1, 1] rfl (l64 (by decide)) (by decide) 2 rfl (Below.refl _ _))
  rw [unhide f0, unhide g0] at cc
  refine cc.mono ?_
  clear cc
  rintro e w1 ⟨rfl, bq⟩
  have b1 : Below w.heap.size w w1 := (below_alloc w _).trans (bq.mono (by simp))
  clear bq
  have z1 := b1.size
  go_wp2_with fail
  have cc := check_any _ _ _ _ _ (lit_is (w := w1) (w' := w1.alloc (.cells #[.int .i64 1, .int .i64 2] 3)) [1, 2] rfl (l64 (by decide)) (by decide) 2 rfl (Below.refl _ _))
  rw [unhide f1, unhide g1] at cc
  refine cc.mono ?_
  clear cc
  rintro e w2 ⟨rfl, bq⟩
  have b2 : Below w1.heap.size w1 w2 := (below_alloc w1 _).trans (bq.mono (by simp))
  clear bq
  have z2 := b2.size
  go_wp2_with fail
  have cc := check_any _ _ _ _ _ (lit_is (w := w2) (w' := w2.alloc (.cells #[.int .i64 1, .int .i64 1, .int .i64 1] 3)) [1, 1, 1] rfl (l64 (by decide)) (by decide) 3 rfl (Below.refl _ _))
  rw [unhide f2, unhide g2] at cc
  refine cc.mono ?_
  clear cc
  rintro e w3 ⟨rfl, bq⟩
  have b3 : Below w2.heap.size w2 w3 := (below_alloc w2 _).trans (bq.mono (by simp))
  clear bq
  have z3 := b3.size
  go_wp2_with fail
  have cc := check_any _ _ _ _ _ (lit_is (w := w3) (w' := w3.alloc (.cells #[.int .i64 16] 3)) [16] rfl (l64 (by decide)) (by decide) 1 rfl (Below.refl _ _))
  rw [unhide f3, unhide g3] at cc
  refine cc.mono ?_
  clear cc
  rintro e w4 ⟨rfl, bq⟩
  have b4 : Below w3.heap.size w3 w4 := (below_alloc w3 _).trans (bq.mono (by simp))
  clear bq
  have z4 := b4.size
  go_wp2_with fail
  have cc := check_any none 0 0 [] w4 (Is.nought _)
  rw [unhide f4, unhide g4] at cc
  refine cc.mono ?_
  clear cc
  rintro e w5 ⟨rfl, bq⟩
  have b5 : Below w4.heap.size w4 w5 := bq
  clear bq
  have z5 := b5.size
  go_wp2_with fail
  have cc := readq_any _ _ _ _ _ _ _ _ 0 _ (lit_is (w := w5) (w' := (w5.alloc (.cells #[.int .i64 1, .int .i64 2, .int .i64 2] 3)).alloc (.cells #[.int .u8 26] 5)) [1, 2, 2] rfl (l64 (by decide)) (by decide) 3 rfl ((Below.refl _ _).alloc (by simp) _)) (lit_bs (w := w5.alloc (.cells #[.int .i64 1, .int .i64 2, .int .i64 2] 3)) (w' := (w5.alloc (.cells #[.int .i64 1, .int .i64 2, .int .i64 2] 3)).alloc (.cells #[.int .u8 26] 5)) [26] rfl (l8 (by decide)) (by decide) 1 rfl (Below.refl _ _)) (by decide) (by decide)
  rw [unhide r0] at cc
  simp only [World.size_alloc] at cc
  refine cc.mono ?_
  clear cc
  rintro e w6 ⟨rfl, bq⟩
  have b6 : Below w5.heap.size w5 w6 := ((below_alloc w5 _).alloc (by simp) _).trans (bq.mono (by omega))
  clear bq
  have z6 := b6.size
  go_wp2_with fail
  have cc := readq_any _ _ _ _ _ _ _ _ 3 _ (lit_is (w := w6) (w' := (w6.alloc (.cells #[.int .i64 1, .int .i64 2, .int .i64 2] 3)).alloc (.cells #[.int .u8 26] 5)) [1, 2, 2] rfl (l64 (by decide)) (by decide) 3 rfl ((Below.refl _ _).alloc (by simp) _)) (lit_bs (w := w6.alloc (.cells #[.int .i64 1, .int .i64 2, .int .i64 2] 3)) (w' := (w6.alloc (.cells #[.int .i64 1, .int .i64 2, .int .i64 2] 3)).alloc (.cells #[.int .u8 26] 5)) [26] rfl (l8 (by decide)) (by decide) 1 rfl (Below.refl _ _)) (by decide) (by decide)
  rw [unhide r1] at cc
  simp only [World.size_alloc] at cc
  refine cc.mono ?_
  clear cc
  rintro e w7 ⟨rfl, bq⟩
  have b7 : Below w6.heap.size w6 w7 := ((below_alloc w6 _).alloc (by simp) _).trans (bq.mono (by omega))
  clear bq
  have z7 := b7.size
  go_wp2_with fail
  have cc := readq_any _ _ _ _ _ _ _ _ 8 _ (lit_is (w := w7) (w' := (w7.alloc (.cells #[.int .i64 1, .int .i64 2, .int .i64 2] 3)).alloc (.cells #[.int .u8 26] 5)) [1, 2, 2] rfl (l64 (by decide)) (by decide) 3 rfl ((Below.refl _ _).alloc (by simp) _)) (lit_bs (w := w7.alloc (.cells #[.int .i64 1, .int .i64 2, .int .i64 2] 3)) (w' := (w7.alloc (.cells #[.int .i64 1, .int .i64 2, .int .i64 2] 3)).alloc (.cells #[.int .u8 26] 5)) [26] rfl (l8 (by decide)) (by decide) 1 rfl (Below.refl _ _)) (by decide) (by decide)
  rw [unhide r2] at cc
  simp only [World.size_alloc] at cc
  refine cc.mono ?_
  clear cc
  rintro e w8 ⟨rfl, bq⟩
  have b8 : Below w7.heap.size w7 w8 := ((below_alloc w7 _).alloc (by simp) _).trans (bq.mono (by omega))
  clear bq
  have z8 := b8.size
  go_wp2_with fail
  have cc := readq_any _ _ _ _ _ _ _ _ 0 _ (lit_is (w := w8) (w' := (w8.alloc (.cells #[.int .i64 0, .int .i64 2] 3)).alloc (.cells #[.int .u8 255] 5)) [0, 2] rfl (l64 (by decide)) (by decide) 2 rfl ((Below.refl _ _).alloc (by simp) _)) (lit_bs (w := w8.alloc (.cells #[.int .i64 0, .int .i64 2] 3)) (w' := (w8.alloc (.cells #[.int .i64 0, .int .i64 2] 3)).alloc (.cells #[.int .u8 255] 5)) [255] rfl (l8 (by decide)) (by decide) 1 rfl (Below.refl _ _)) (by decide) (by decide)
  rw [unhide r3] at cc
  simp only [World.size_alloc] at cc
  refine cc.mono ?_
  clear cc
  rintro e w9 ⟨rfl, bq⟩
  have b9 : Below w8.heap.size w8 w9 := ((below_alloc w8 _).alloc (by simp) _).trans (bq.mono (by omega))
  clear bq
  have z9 := b9.size
  go_wp2_with fail
  have cc := readq_any _ _ _ _ _ _ _ _ 0 _ (lit_is (w := w9) (w' := w9.alloc (.cells #[.int .i64 0, .int .i64 0] 3)) [0, 0] rfl (l64 (by decide)) (by decide) 2 rfl (Below.refl _ _)) (Bs.nought _) (by decide) (by decide)
  rw [unhide r4] at cc
  simp only [World.size_alloc] at cc
  refine cc.mono ?_
  clear cc
  rintro e w10 ⟨rfl, bq⟩
  have b10 : Below w9.heap.size w9 w10 := (below_alloc w9 _).trans (bq.mono (by omega))
  clear bq
  have z10 := b10.size
  go_wp2_with fail
  refine (lives_any _).mono ?_
  rintro e w11 ⟨rfl, b11⟩
  go_wp2_with fail
  go_ret
  refine ⟨rfl, ?_⟩
  exact ((((((((((b1.trans (b2.mono (by omega))).trans (b3.mono (by omega))).trans (b4.mono (by omega))).trans (b5.mono (by omega))).trans (b6.mono (by omega))).trans (b7.mono (by omega))).trans (b8.mono (by omega))).trans (b9.mono (by omega))).trans (b10.mono (by omega))).trans (b11.mono (by omega)))

end Go.Proofs.Ytgphglghjpeojaa
