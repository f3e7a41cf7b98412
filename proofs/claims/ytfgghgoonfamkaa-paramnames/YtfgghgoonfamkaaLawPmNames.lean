/-
  ParamNames walked: the chapter's examples. Conditions: none.
-/
import Derived.Test.YtfgghgoonfamkaaPmLives
namespace Go.Proofs.Ytfgghgoonfamkaa
open Go.RowKit
set_option linter.unusedVariables false
set_option linter.unusedSimpArgs false

def np0 : Pa := ⟨⟨3, false⟩, false, va0⟩
def np1 : Pa := ⟨⟨253, false⟩, true, va0⟩
theorem np_flat : (flatP [np0, np1]).toArray = #[.int .u8 3, .bool false, .bool false, .int .i64 0, .int .i64 0, .int .u64 0, .string ⟨#[]⟩, .bool false, .int .i64 0, .int .i64 0, .int .i64 0, .int .i64 0, .int .i64 0, .int .i64 0, .int .i64 0, .int .u8 253, .bool false, .bool true, .int .i64 0, .int .i64 0, .int .u64 0, .string ⟨#[]⟩, .bool false, .int .i64 0, .int .i64 0, .int .i64 0, .int .i64 0, .int .i64 0, .int .i64 0, .int .i64 0] := rfl
theorem v0K : VaK va0 := ⟨⟨by decide, by decide⟩, ⟨by decide, by decide⟩, ⟨by decide, by decide⟩, w0K⟩
theorem np_K : ∀ p ∈ [np0, np1], VaK p.v ∧ p.v.t.size ≤ 3000 ∧ 0 ≤ p.t.t ∧ p.t.t < 256 := by
  intro p hp
  simp only [List.mem_cons, List.not_mem_nil, or_false] at hp
  rcases hp with rfl | rfl
  all_goals exact ⟨v0K, by decide, by decide, by decide⟩
theorem np_ok : plOk [np0, np1] = true := by kernel_rfl
theorem np_is : Isp [np0, np1] [1] := by
  refine ⟨rfl, Byt.one (by decide) (by decide), fun j => ?_⟩
  by_cases hj : j < 8
  · rcases (show j = 0 ∨ j = 1 ∨ j = 2 ∨ j = 3 ∨ j = 4 ∨ j = 5 ∨ j = 6 ∨ j = 7 by omega) with rfl | rfl | rfl | rfl | rfl | rfl | rfl | rfl <;> kernel_rfl
  · rw [bit_out (by simp; omega)]
    unfold pnb
    rw [List.getElem?_eq_none (by simp; omega)]
theorem np_by : paB [np0, np1] false [1] = [1, 0] := by kernel_rfl
theorem nr_1 : pmR [0, 0, 7, 0, 0, 0] 1 [] [] = ([], false, 5) := by kernel_rfl
theorem nr_2 : pmR [] 0 [] [] = ([], false, 0) := by kernel_rfl
theorem nr_3 : pmR [0] 0 [] [] = ([], false, 5) := by kernel_rfl
theorem nr_4 : pmR [2, 1, 3, 0] 1 [] [] = ([], false, 5) := by kernel_rfl

set_option maxHeartbeats 4000000 in
set_option maxRecDepth 100000 in
theorem lawPmNames (w : World) : Calls Try.prog 3 #[] w fun e w' => e = .returned (.bool true) ∧ Below w.heap.size w w' := by
  have q1 := below_alloc w (.cells #[.int .u8 3, .bool false, .bool false, .int .i64 0, .int .i64 0, .int .u64 0, .string ⟨#[]⟩, .bool false, .int .i64 0, .int .i64 0, .int .i64 0, .int .i64 0, .int .i64 0, .int .i64 0, .int .i64 0, .int .u8 253, .bool false, .bool true, .int .i64 0, .int .i64 0, .int .u64 0, .string ⟨#[]⟩, .bool false, .int .i64 0, .int .i64 0, .int .i64 0, .int .i64 0, .int .i64 0, .int .i64 0, .int .i64 0] 34)
  have hp := Pas.lit w [np0, np1] (by decide)
  rw [np_flat] at hp
  have c1 := hide (pappend_any none 0 0 [] (some ⟨w.heap.size, 0, none⟩) 2 2 [np0, np1] false (w.alloc (.cells #[.int .u8 3, .bool false, .bool false, .int .i64 0, .int .i64 0, .int .u64 0, .string ⟨#[]⟩, .bool false, .int .i64 0, .int .i64 0, .int .i64 0, .int .i64 0, .int .i64 0, .int .i64 0, .int .i64 0, .int .u8 253, .bool false, .bool true, .int .i64 0, .int .i64 0, .int .u64 0, .string ⟨#[]⟩, .bool false, .int .i64 0, .int .i64 0, .int .i64 0, .int .i64 0, .int .i64 0, .int .i64 0, .int .i64 0] 34)) (Bs.nought _) hp np_K (by decide) (by decide) (by decide))
  have Q1 := hide q1
  clear q1 hp
  go_enter Try.func3, Try.ntmps3
  go_wp2_with fail
  refine (unhide c1).mono ?_
  intro e w2 h2
  obtain ⟨xo, xn, xc, nl, rfl, hI, m2, b2⟩ := OutA.oks h2 np_ok
  have hnl := hI.one np_is
  subst hnl
  rw [np_by, List.nil_append] at m2
  have S2 := hide (show Below w.heap.size w w2 ∧ Bs w2 xo xn xc [1, 0] from ⟨vbup (unhide Q1) b2, m2.bs⟩)
  clear h2 hI m2 b2 c1 Q1
  have P2 := hide (below_alloc w2 (.cells #[.int .u8 0, .int .u8 0, .int .u8 7, .int .u8 0, .int .u8 0, .int .u8 0] 5))
  have c2 := hide (pread_any (some ⟨w2.heap.size, 0, none⟩) 6 6 [0, 0, 7, 0, 0, 0] 1 none 0 0 [] none 0 0 [] (w2.alloc (.cells #[.int .u8 0, .int .u8 0, .int .u8 7, .int .u8 0, .int .u8 0, .int .u8 0] 5)) (Bs.lit w2 [0, 0, 7, 0, 0, 0] (by intro x hx; simp at hx; omega) (by simp)) (Tys.nought _) (fun p hp => by cases hp) (Bls.nought _) (by decide))
  rw [nr_1] at c2
  go_wp2_with fail
  refine (unhide c2).mono ?_
  rintro e w3 ⟨a3, n3, d3, rfl, m3, b3⟩
  have S3 := hide (show Below w.heap.size w w3 ∧ Bs w3 xo xn xc [1, 0] from ⟨vbup (vbup (unhide S2).1 (unhide P2)) b3, ((unhide S2).2.later (unhide P2)).later b3⟩)
  clear m3 b3 c2 S2 P2
  have P3 := hide (Below.refl w3.heap.size w3)
  have c3 := hide (pread_any none 0 0 [] 0 none 0 0 [] none 0 0 [] w3 (Bs.nought _) (Tys.nought _) (fun p hp => by cases hp) (Bls.nought _) (by decide))
  rw [nr_2] at c3
  go_wp2_with fail
  refine (unhide c3).mono ?_
  rintro e w4 ⟨a4, n4, d4, rfl, m4, b4⟩
  have hl0 : n4 = 0 := by have := m4.len; simpa using this.symm
  subst hl0
  have S4 := hide (show Below w.heap.size w w4 ∧ Bs w4 xo xn xc [1, 0] from ⟨vbup (vbup (unhide S3).1 (unhide P3)) b4, ((unhide S3).2.later (unhide P3)).later b4⟩)
  clear m4 b4 c3 S3 P3
  have P4 := hide (below_alloc w4 (.cells #[.int .u8 0] 5))
  have c4 := hide (pread_any (some ⟨w4.heap.size, 0, none⟩) 1 1 [0] 0 none 0 0 [] none 0 0 [] (w4.alloc (.cells #[.int .u8 0] 5)) (Bs.lit w4 [0] (by intro x hx; simp at hx; omega) (by simp)) (Tys.nought _) (fun p hp => by cases hp) (Bls.nought _) (by decide))
  rw [nr_3] at c4
  go_wp2_with fail
  refine (unhide c4).mono ?_
  rintro e w5 ⟨a5, n5, d5, rfl, m5, b5⟩
  have S5 := hide (show Below w.heap.size w w5 ∧ Bs w5 xo xn xc [1, 0] from ⟨vbup (vbup (unhide S4).1 (unhide P4)) b5, ((unhide S4).2.later (unhide P4)).later b5⟩)
  clear m5 b5 c4 S4 P4
  have P5 := hide (below_alloc w5 (.cells #[.int .u8 2, .int .u8 1, .int .u8 3, .int .u8 0] 5))
  have c5 := hide (pread_any (some ⟨w5.heap.size, 0, none⟩) 4 4 [2, 1, 3, 0] 1 none 0 0 [] none 0 0 [] (w5.alloc (.cells #[.int .u8 2, .int .u8 1, .int .u8 3, .int .u8 0] 5)) (Bs.lit w5 [2, 1, 3, 0] (by intro x hx; simp at hx; omega) (by simp)) (Tys.nought _) (fun p hp => by cases hp) (Bls.nought _) (by decide))
  rw [nr_4] at c5
  go_wp2_with fail
  refine (unhide c5).mono ?_
  rintro e w6 ⟨a6, n6, d6, rfl, m6, b6⟩
  have S6 := hide (show Below w.heap.size w w6 ∧ Bs w6 xo xn xc [1, 0] from ⟨vbup (vbup (unhide S5).1 (unhide P5)) b6, ((unhide S5).2.later (unhide P5)).later b6⟩)
  clear m6 b6 c5 S5 P5
  have cL := hide (pmLives_any w6)
  go_wp2_with fail
  refine (unhide cL).mono ?_
  rintro e w7 ⟨rfl, b7⟩
  have S7 := hide (show Below w.heap.size w w7 ∧ Bs w7 xo xn xc [1, 0] from ⟨vbup (unhide S6).1 b7, (unhide S6).2.later b7⟩)
  have p7 := below_alloc w7 (.cells #[.int .u8 1, .int .u8 0] 5)
  have cS := hide (sameBytes_any xo xn xc [1, 0] (some ⟨w7.heap.size, 0, none⟩) 2 2 [1, 0] (w7.alloc (.cells #[.int .u8 1, .int .u8 0] 5)) ((unhide S7).2.later p7) (Bs.lit w7 [1, 0] (by intro x hx; simp at hx; omega) (by simp)))
  rw [decide_eq_true rfl] at cS
  have P7 := hide p7
  clear b7 cL S6 p7
  go_wp2_with fail
  refine same_world (unhide cS) ?_
  clear cS
  go_wp2_with fail
  go_ret
  exact ⟨rfl, vbup (unhide S7).1 (unhide P7)⟩


end Go.Proofs.Ytfgghgoonfamkaa
