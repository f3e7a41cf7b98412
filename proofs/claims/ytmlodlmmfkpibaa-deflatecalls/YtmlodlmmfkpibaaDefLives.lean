/-
  The chapter's examples that every statement of layer 5 asks first come out as they are written.
-/
import Derived.Test.YtmlodlmmfkpibaaDefAll
import Derived.Test.YtmlodlmmfkpibaaSameB
namespace Go.Proofs.Ytmlodlmmfkpibaa
open Go.RowKit
set_option linter.unusedVariables false
set_option linter.unusedSimpArgs false

theorem byt8 {l : List Int} (h : l.all (fun x => decide (0 ≤ x) && decide (x ≤ 255)) = true) : Byt l := by
  intro x hx
  have := List.all_eq_true.1 h x hx
  simpa using this

theorem dex1 : dfl [97, 97, 97, 97, 97, 97, 97] = [75, 132, 0, 0] := by kernel_rfl
theorem dex2 : sto [97, 98] = [1, 2, 0, 253, 255, 97, 98] := by kernel_rfl

set_option maxHeartbeats 2000000 in
set_option maxRecDepth 20000 in
theorem dlives_any (w : World) : Calls Try.prog 14 #[] w fun e w' => e = .returned (.bool true) ∧ Below w.heap.size w w' := by
  have kc := run_const
  have d1 := hide (deflate_any _ _ _ _ [97, 97, 97, 97, 97, 97, 97] (show Bs (w.alloc (.cells #[.int .u8 97, .int .u8 97, .int .u8 97, .int .u8 97, .int .u8 97, .int .u8 97, .int .u8 97] 5 (7, 8))) (some ⟨w.heap.size, 0, none⟩) 7 7 [97, 97, 97, 97, 97, 97, 97] from Bs.const w (7, 8) [97, 97, 97, 97, 97, 97, 97] (byt8 (by decide)) (by decide)) (by omega))
  rw [dex1] at d1
  go_enter Try.func14, Try.ntmps14
  go_wp2_with fail
  refine (unhide d1).mono ?_
  rintro e w1 ⟨a1, n1, c1, rfl, m1, b1⟩
  have bw1 : Below w.heap.size w w1 := (below_alloc w _).trans (b1.mono (by simp))
  have bb1 := below_alloc w1 (.cells #[.int .u8 75, .int .u8 132, .int .u8 0, .int .u8 0] 5)
  have s1 := hide (sameBytes_any a1 n1 c1 [75, 132, 0, 0] (some ⟨w1.heap.size, 0, none⟩) 4 4 [75, 132, 0, 0] _ (m1.bs.later bb1) (show Bs (w1.alloc (.cells #[.int .u8 75, .int .u8 132, .int .u8 0, .int .u8 0] 5)) _ 4 4 _ from Bs.lit w1 [75, 132, 0, 0] (byt8 (by decide)) (by decide)))
  obtain ⟨w2, hw2⟩ : ∃ w2, w2 = w1.alloc (.cells #[.int .u8 75, .int .u8 132, .int .u8 0, .int .u8 0] 5) := ⟨_, rfl⟩
  have bw2 : Below w.heap.size w w2 := by rw [hw2]; exact bw1.trans (bb1.mono bw1.size)
  rw [← hw2] at s1
  have HW2 := hide hw2
  clear m1 bb1 b1 hw2
  go_wp2_with fail
  rw [← unhide HW2]
  refine same_world (unhide s1) ?_
  have d2 := hide (stored_bs _ _ _ _ [97, 98] (show Bs (w2.alloc (.cells #[.int .u8 97, .int .u8 98] 5 (2, 3))) (some ⟨w2.heap.size, 0, none⟩) 2 2 [97, 98] from Bs.const w2 (2, 3) [97, 98] (byt8 (by decide)) (by decide)) (by omega))
  rw [dex2] at d2
  clear HW2 s1
  go_wp2_with fail
  refine (unhide d2).mono ?_
  rintro e w3 ⟨a3, n3, c3, rfl, m3, b3⟩
  have bw3 : Below w.heap.size w w3 := bw2.trans (((below_alloc w2 _).trans (b3.mono (by simp))).mono bw2.size)
  have bb3 := below_alloc w3 (.cells #[.int .u8 1, .int .u8 2, .int .u8 0, .int .u8 253, .int .u8 255, .int .u8 97, .int .u8 98] 5)
  have s3 := hide (sameBytes_any a3 n3 c3 [1, 2, 0, 253, 255, 97, 98] (some ⟨w3.heap.size, 0, none⟩) 7 7 [1, 2, 0, 253, 255, 97, 98] _ (m3.bs.later bb3) (show Bs (w3.alloc (.cells #[.int .u8 1, .int .u8 2, .int .u8 0, .int .u8 253, .int .u8 255, .int .u8 97, .int .u8 98] 5)) _ 7 7 _ from Bs.lit w3 [1, 2, 0, 253, 255, 97, 98] (byt8 (by decide)) (by decide)))
  clear m3 b3
  go_wp2_with fail
  refine same_world (unhide s3) ?_
  go_wp2_with fail
  go_ret
  exact ⟨rfl, bw3.trans (bb3.mono bw3.size)⟩
end Go.Proofs.Ytmlodlmmfkpibaa
