/-
  The chapter's examples that every statement of layer 1 asks first come out as they are written. Conditions: none.
-/
import Derived.Test.YtenindnahhebcaaKit
namespace Go.Proofs.Ytenindnahhebcaa
open Go.RowKit
set_option linter.unusedVariables false
set_option linter.unusedSimpArgs false

set_option maxHeartbeats 1000000 in
theorem lives_any (w : World) : Calls Try.prog 16 #[] w fun e w' => e = .returned (.bool true) ∧ Below w.heap.size w w' := by
  have r1 := hide (show readInt [252, 1, 0, 9] = (1, 3, 0) by decide +kernel)
  have r2 := hide (show readText [2, 97, 98, 99] = (⟨#[97, 98]⟩, 3, 0) by decide +kernel)
  have r3 := hide (show readEnded [97, 0, 98] = (⟨#[97]⟩, 2, 0) by decide +kernel)
  have r4 := hide (show decide (([] : List Int) ++ le 258 (2 : Int).toNat = [2, 1]) = true by decide +kernel)
  go_enter Try.func16, Try.ntmps16
  go_wp2_with fail
  refine (appendFixed_ok none 0 0 [] 258 2 _ (Bs.nought _) (by omega) (by omega) (by omega) (by omega) (by omega) (by decide)).mono ?_
  rintro e w1 ⟨ao1, c1, rfl, hm1, hb1⟩
  have hz1 := hb1.size
  have k1 := hm1.bs
  clear hm1
  go_wp2_with fail
  refine (readInt_any _ _ _ _ _ (show Bs (w1.alloc (.cells #[.int .u8 252, .int .u8 1, .int .u8 0, .int .u8 9] 5)) (some ⟨w1.heap.size, 0, none⟩) 4 4 [252, 1, 0, 9] from Bs.lit w1 [252, 1, 0, 9] (by intro x hx; simp at hx; omega) (by decide))).mono ?_
  rw [unhide r1]
  rintro e w2 ⟨rfl, hw2⟩
  have hb2 : Below w1.heap.size w1 w2 := by rw [hw2]; exact below_alloc w1 _
  clear hw2
  have k2 := k1.later hb2
  have hz2 := hb2.size
  go_wp2_with fail
  refine (readText_any _ _ _ _ _ (show Bs (w2.alloc (.cells #[.int .u8 2, .int .u8 97, .int .u8 98, .int .u8 99] 5)) (some ⟨w2.heap.size, 0, none⟩) 4 4 [2, 97, 98, 99] from Bs.lit w2 [2, 97, 98, 99] (by intro x hx; simp at hx; omega) (by decide))).mono ?_
  rw [unhide r2]
  rintro e w3 ⟨rfl, hw3⟩
  have hb3 : Below w2.heap.size w2 w3 := by rw [hw3]; exact below_alloc w2 _
  clear hw3
  have k3 := k2.later hb3
  have hz3 := hb3.size
  go_wp2_with fail
  refine (readEnded_any _ _ _ _ _ (show Bs (w3.alloc (.cells #[.int .u8 97, .int .u8 0, .int .u8 98] 5)) (some ⟨w3.heap.size, 0, none⟩) 3 3 [97, 0, 98] from Bs.lit w3 [97, 0, 98] (by intro x hx; simp at hx; omega) (by decide))).mono ?_
  rw [unhide r3]
  rintro e w4 ⟨rfl, hw4⟩
  have hb4 : Below w3.heap.size w3 w4 := by rw [hw4]; exact below_alloc w3 _
  clear hw4
  have k4 := k3.later hb4
  have hz4 := hb4.size
  clear k1 k2 k3
  go_wp2_with fail
  refine (sameBytes_any _ _ _ _ _ _ _ _ _ (k4.later (below_alloc w4 _)) (show Bs (w4.alloc (.cells #[.int .u8 2, .int .u8 1] 5)) (some ⟨w4.heap.size, 0, none⟩) 2 2 [2, 1] from Bs.lit w4 [2, 1] (by intro x hx; simp at hx; omega) (by decide))).mono ?_
  rw [unhide r4]
  rintro e w5 ⟨rfl, hw5⟩
  have hb5 : Below w4.heap.size w4 w5 := by rw [hw5]; exact below_alloc w4 _
  clear hw5
  go_wp2_with fail
  go_ret
  refine ⟨rfl, ?_⟩
  exact (((hb1.trans (hb2.mono hz1)).trans (hb3.mono (by omega))).trans (hb4.mono (by omega))).trans (hb5.mono (by omega))

end Go.Proofs.Ytenindnahhebcaa
