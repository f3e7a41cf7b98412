/-
  The chapter's examples that every statement of layer 2 asks first come out as they are written. Conditions: none.
-/
import Derived.Test.YtmndgdclcompjaaAdlJoin2
namespace Go.Proofs.Ytmndgdclcompjaa
open Go.RowKit
set_option linter.unusedVariables false
set_option linter.unusedSimpArgs false

set_option maxHeartbeats 1000000 in
theorem lives_any (w : World) : Calls Try.prog 10 #[] w fun e w' => e = .returned (.bool true) ∧ Below w.heap.size w w' := by
  have kc := run_const
  have s1 := hide (show sumOf [87, 105, 107, 105] = 64618901 by decide +kernel)
  have s2 := hide (show sumOf [112, 101, 100, 105, 97] = 103285252 by decide +kernel)
  have s3 := hide (show sumOf [87, 105, 107, 105, 112, 101, 100, 105, 97] = 300286872 by decide +kernel)
  have s0 := hide (show sumOf [] = 1 by decide +kernel)
  have s4 := hide (show joined 64618901 103285252 5 = (300286872, 0) by decide +kernel)
  go_enter Try.func10, Try.ntmps10
  go_wp2_with fail
  refine (sum_any _ _ _ _ _ (show Bs (w.alloc (.cells #[.int .u8 87, .int .u8 105, .int .u8 107, .int .u8 105] 5 (4, 5))) (some ⟨w.heap.size, 0, none⟩) 4 4 [87, 105, 107, 105] from Bs.const w (4, 5) [87, 105, 107, 105] (by intro x hx; simp at hx; omega) (by decide))).mono ?_
  rw [unhide s1]
  rintro e w1 ⟨rfl, hw1⟩
  have hb1 : Below w.heap.size w w1 := by rw [hw1]; exact below_alloc w _
  clear hw1
  have hz1 := hb1.size
  go_wp2_with fail
  refine (sum_any _ _ _ _ _ (show Bs (w1.alloc (.cells #[.int .u8 112, .int .u8 101, .int .u8 100, .int .u8 105, .int .u8 97] 5 (5, 6))) (some ⟨w1.heap.size, 0, none⟩) 5 5 [112, 101, 100, 105, 97] from Bs.const w1 (5, 6) [112, 101, 100, 105, 97] (by intro x hx; simp at hx; omega) (by decide))).mono ?_
  rw [unhide s2]
  rintro e w2 ⟨rfl, hw2⟩
  have hb2 : Below w1.heap.size w1 w2 := by rw [hw2]; exact below_alloc w1 _
  clear hw2
  have hz2 := hb2.size
  go_wp2_with fail
  have cc := joined_any 64618901 103285252 5 w2 (by omega) (by omega) (by omega) (by omega) (by omega)
  rw [unhide s4] at cc
  refine same_world cc ?_
  clear cc
  go_wp2_with fail
  have cc := sum_any none 0 0 [] w2 (Bs.nought _)
  rw [unhide s0] at cc
  refine same_world cc ?_
  clear cc
  go_wp2_with fail
  refine (sum_any _ _ _ _ _ (show Bs (w2.alloc (.cells #[.int .u8 87, .int .u8 105, .int .u8 107, .int .u8 105, .int .u8 112, .int .u8 101, .int .u8 100, .int .u8 105, .int .u8 97] 5 (9, 10))) (some ⟨w2.heap.size, 0, none⟩) 9 9 [87, 105, 107, 105, 112, 101, 100, 105, 97] from Bs.const w2 (9, 10) [87, 105, 107, 105, 112, 101, 100, 105, 97] (by intro x hx; simp at hx; omega) (by decide))).mono ?_
  rw [unhide s3]
  rintro e w3 ⟨rfl, hw3⟩
  have hb3 : Below w2.heap.size w2 w3 := by rw [hw3]; exact below_alloc w2 _
  clear hw3
  go_wp2_with fail
  go_ret
  exact ⟨rfl, (hb1.trans (hb2.mono hz1)).trans (hb3.mono (by omega))⟩

end Go.Proofs.Ytmndgdclcompjaa
