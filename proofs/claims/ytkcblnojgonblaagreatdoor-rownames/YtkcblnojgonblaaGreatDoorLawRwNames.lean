/-
  RowNames walked: the chapter's examples. Conditions: the library's variables read as their initialisers lay them.
-/
import Derived.Test.YtkcblnojgonblaaGreatDoorMTn
import Derived.Test.YtkcblnojgonblaaGreatDoorMLi
import Derived.Test.YtkcblnojgonblaaGreatDoorMA
namespace Go.Proofs.YtkcblnojgonblaaGreatDoor
open Go.RowKit
set_option linter.unusedVariables false
set_option linter.unusedSimpArgs false

def tt1 : List Ty := [⟨1, false⟩]
def tt2 : List Ty := [⟨3, false⟩, ⟨1, false⟩]
theorem tt1_flat : (flatT tt1).toArray = #[.int .u8 1, .bool false] := rfl
theorem tt2_flat : (flatT tt2).toArray = #[.int .u8 3, .bool false, .int .u8 1, .bool false] := rfl
theorem v0_flat : (flatV [va0]).toArray = #[.int .i64 0, .int .i64 0, .int .u64 0, .string ⟨#[]⟩, .bool false, .int .i64 0, .int .i64 0, .int .i64 0, .int .i64 0, .int .i64 0, .int .i64 0, .int .i64 0] := rfl
theorem tt1_T : ∀ p ∈ tt1, 0 ≤ p.t ∧ p.t < 256 := by
  intro p hp
  simp only [tt1, List.mem_cons, List.not_mem_nil, or_false] at hp
  subst hp
  exact ⟨by decide, by decide⟩
theorem tt2_T : ∀ p ∈ tt2, 0 ≤ p.t ∧ p.t < 256 := by
  intro p hp
  simp only [tt2, List.mem_cons, List.not_mem_nil, or_false] at hp
  rcases hp with rfl | rfl
  all_goals exact ⟨by decide, by decide⟩
theorem nm_1 : rbR [0, 8, 1, 0, 0] tt2 = ([], 4) := by kernel_rfl
theorem nm_2 : rbR [0, 4] tt1 = ([va0], 0) := by kernel_rfl
theorem nm_3 : rbR [0, 1] tt1 = ([], 5) := by kernel_rfl
theorem nm_4 : rbR [1] [] = ([], 5) := by kernel_rfl
theorem nm_5 : tuR [0, 0, 255] tt1 = ([2, 45, 49], 0) := by kernel_rfl

set_option maxHeartbeats 4000000 in
set_option maxRecDepth 100000 in
theorem lawRwNames (w : World) (hvs : Vars w) : Calls Tryz.prog 3 #[] w fun e w' => e = .returned (.bool true) ∧ Below w.heap.size w w' := by
  have HV := hide hvs
  have q1 := below_alloc w (.cells #[.int .u8 1, .bool false] 23)
  have q2 := below_alloc (w.alloc (.cells #[.int .u8 1, .bool false] 23)) (.cells #[.int .u8 0, .int .u8 8, .int .u8 1, .int .u8 0, .int .u8 0] 5)
  have q3 := below_alloc ((w.alloc (.cells #[.int .u8 1, .bool false] 23)).alloc (.cells #[.int .u8 0, .int .u8 8, .int .u8 1, .int .u8 0, .int .u8 0] 5)) (.cells #[.int .u8 3, .bool false, .int .u8 1, .bool false] 23)
  have z1 : (w.alloc (.cells #[.int .u8 1, .bool false] 23)).heap.size = w.heap.size + 1 := by simp
  have z2 : ((w.alloc (.cells #[.int .u8 1, .bool false] 23)).alloc (.cells #[.int .u8 0, .int .u8 8, .int .u8 1, .int .u8 0, .int .u8 0] 5)).heap.size = w.heap.size + 2 := by simp
  have t1 := Tys.lit w tt1 (by decide)
  rw [tt1_flat] at t1
  have b1 := Bs.lit (w.alloc (.cells #[.int .u8 1, .bool false] 23)) [0, 8, 1, 0, 0] (by intro x hx; simp at hx; omega) (by simp)
  rw [z1] at b1
  have t2 := Tys.lit ((w.alloc (.cells #[.int .u8 1, .bool false] 23)).alloc (.cells #[.int .u8 0, .int .u8 8, .int .u8 1, .int .u8 0, .int .u8 0] 5)) tt2 (by decide)
  rw [tt2_flat, z2] at t2
  have q13 := vbup (vbup q1 q2) q3
  have c1 := hide (readBin_any (some ⟨w.heap.size + 1, 0, none⟩) 5 5 [0, 8, 1, 0, 0] (some ⟨w.heap.size + 2, 0, none⟩) 2 2 tt2 (((w.alloc (.cells #[.int .u8 1, .bool false] 23)).alloc (.cells #[.int .u8 0, .int .u8 8, .int .u8 1, .int .u8 0, .int .u8 0] 5)).alloc (.cells #[.int .u8 3, .bool false, .int .u8 1, .bool false] 23)) (b1.later q3) t2 tt2_T (by decide))
  rw [nm_1] at c1
  have S3 := hide (show Below w.heap.size w (((w.alloc (.cells #[.int .u8 1, .bool false] 23)).alloc (.cells #[.int .u8 0, .int .u8 8, .int .u8 1, .int .u8 0, .int .u8 0] 5)).alloc (.cells #[.int .u8 3, .bool false, .int .u8 1, .bool false] 23)) ∧ Tys (((w.alloc (.cells #[.int .u8 1, .bool false] 23)).alloc (.cells #[.int .u8 0, .int .u8 8, .int .u8 1, .int .u8 0, .int .u8 0] 5)).alloc (.cells #[.int .u8 3, .bool false, .int .u8 1, .bool false] 23)) (some ⟨w.heap.size, 0, none⟩) 1 1 tt1 from ⟨q13, (t1.later q2).later q3⟩)
  clear hvs q1 q2 q3 z1 z2 t1 b1 t2 q13
  go_enter Tryz.func3, Tryz.ntmps3
  go_wp2_with fail
  refine (unhide c1).mono ?_
  rintro e w4 ⟨a4, n4, d4, rfl, m4, b4⟩
  have S4 := hide (show Below w.heap.size w w4 ∧ Tys w4 (some ⟨w.heap.size, 0, none⟩) 1 1 tt1 from ⟨vbup (unhide S3).1 b4, (unhide S3).2.later b4⟩)
  clear m4 b4 c1 S3
  have p4 := below_alloc w4 (.cells #[.int .u8 0, .int .u8 4] 5)
  have c4 := hide (readBin_any (some ⟨w4.heap.size, 0, none⟩) 2 2 [0, 4] (some ⟨w.heap.size, 0, none⟩) 1 1 tt1 (w4.alloc (.cells #[.int .u8 0, .int .u8 4] 5)) (Bs.lit w4 [0, 4] (by intro x hx; simp at hx; omega) (by simp)) ((unhide S4).2.later p4) tt1_T (by decide))
  rw [nm_2] at c4
  have P4 := hide p4
  clear p4
  go_wp2_with fail
  refine (unhide c4).mono ?_
  rintro e w5 ⟨a5, n5, d5, rfl, m5, b5⟩
  have S5 := hide (show Below w.heap.size w w5 ∧ Tys w5 (some ⟨w.heap.size, 0, none⟩) 1 1 tt1 ∧ Vs w5 a5 n5 d5 [va0] from ⟨vbup (vbup (unhide S4).1 (unhide P4)) b5, ((unhide S4).2.later (unhide P4)).later b5, m5.ss⟩)
  clear m5 b5 c4 S4 P4
  have p5 := below_alloc w5 (.cells #[.int .u8 0, .int .u8 1] 5)
  have c5 := hide (readBin_any (some ⟨w5.heap.size, 0, none⟩) 2 2 [0, 1] (some ⟨w.heap.size, 0, none⟩) 1 1 tt1 (w5.alloc (.cells #[.int .u8 0, .int .u8 1] 5)) (Bs.lit w5 [0, 1] (by intro x hx; simp at hx; omega) (by simp)) ((unhide S5).2.1.later p5) tt1_T (by decide))
  rw [nm_3] at c5
  have P5 := hide p5
  clear p5
  go_wp2_with fail
  refine (unhide c5).mono ?_
  rintro e w6 ⟨a6, n6, d6, rfl, m6, b6⟩
  have S6 := hide (show Below w.heap.size w w6 ∧ Tys w6 (some ⟨w.heap.size, 0, none⟩) 1 1 tt1 ∧ Vs w6 a5 n5 d5 [va0] from ⟨vbup (vbup (unhide S5).1 (unhide P5)) b6, ((unhide S5).2.1.later (unhide P5)).later b6, ((unhide S5).2.2.later (unhide P5)).later b6⟩)
  clear m6 b6 c5 S5 P5
  have p6 := below_alloc w6 (.cells #[.int .u8 1] 5)
  have c6 := hide (readBin_any (some ⟨w6.heap.size, 0, none⟩) 1 1 [1] none 0 0 [] (w6.alloc (.cells #[.int .u8 1] 5)) (Bs.lit w6 [1] (by intro x hx; simp at hx; omega) (by simp)) (Tys.nought _) (fun p hp => by cases hp) (by decide))
  rw [nm_4] at c6
  have P6 := hide p6
  clear p6
  go_wp2_with fail
  refine (unhide c6).mono ?_
  rintro e w7 ⟨a7, n7, d7, rfl, m7, b7⟩
  have S7 := hide (show Below w.heap.size w w7 ∧ Tys w7 (some ⟨w.heap.size, 0, none⟩) 1 1 tt1 ∧ Vs w7 a5 n5 d5 [va0] from ⟨vbup (vbup (unhide S6).1 (unhide P6)) b7, ((unhide S6).2.1.later (unhide P6)).later b7, ((unhide S6).2.2.later (unhide P6)).later b7⟩)
  clear m7 b7 c6 S6 P6
  have p7 := below_alloc w7 (.cells #[.int .u8 0, .int .u8 0, .int .u8 255] 5)
  have c7 := hide (turned_any (some ⟨w7.heap.size, 0, none⟩) 3 3 [0, 0, 255] (some ⟨w.heap.size, 0, none⟩) 1 1 tt1 (w7.alloc (.cells #[.int .u8 0, .int .u8 0, .int .u8 255] 5)) (Bs.lit w7 [0, 0, 255] (by intro x hx; simp at hx; omega) (by simp)) ((unhide S7).2.1.later p7) tt1_T (by decide) (by decide) ((unhide HV).later (vbup (unhide S7).1 p7)) (fun h => rb_ok (by intro x hx; simp at hx; omega) (by decide) h))
  rw [nm_5] at c7
  have P7 := hide p7
  clear p7
  go_wp2_with fail
  refine (unhide c7).mono ?_
  rintro e w8 ⟨a8, n8, d8, rfl, m8, b8⟩
  have S8 := hide (show Below w.heap.size w w8 ∧ Bs w8 a8 n8 d8 [2, 45, 49] ∧ Vs w8 a5 n5 d5 [va0] from ⟨vbup (vbup (unhide S7).1 (unhide P7)) b8, m8.bs, ((unhide S7).2.2.later (unhide P7)).later b8⟩)
  clear m8 b8 c7 S7 P7
  have cL := hide (rwLives_any w8)
  go_wp2_with fail
  refine (unhide cL).mono ?_
  rintro e w9 ⟨rfl, b9⟩
  have S9 := hide (show Below w.heap.size w w9 ∧ Bs w9 a8 n8 d8 [2, 45, 49] ∧ Vs w9 a5 n5 d5 [va0] from ⟨vbup (unhide S8).1 b9, (unhide S8).2.1.later b9, (unhide S8).2.2.later b9⟩)
  have p9 := below_alloc w9 (.cells #[.int .i64 0, .int .i64 0, .int .u64 0, .string ⟨#[]⟩, .bool false, .int .i64 0, .int .i64 0, .int .i64 0, .int .i64 0, .int .i64 0, .int .i64 0, .int .i64 0] 38)
  have l9 := Vs.lit w9 [va0] (by decide)
  rw [v0_flat] at l9
  have cV := hide (sameValues_self a5 n5 d5 (some ⟨w9.heap.size, 0, none⟩) 1 1 [va0] (w9.alloc (.cells #[.int .i64 0, .int .i64 0, .int .u64 0, .string ⟨#[]⟩, .bool false, .int .i64 0, .int .i64 0, .int .i64 0, .int .i64 0, .int .i64 0, .int .i64 0, .int .i64 0] 38)) ((unhide S9).2.2.later p9) l9)
  have P9 := hide p9
  clear b9 cL S8 p9 l9
  go_wp2_with fail
  refine (unhide cV).mono ?_
  rintro e w10 ⟨rfl, b10⟩
  have S10 := hide (show Below w.heap.size w w10 ∧ Bs w10 a8 n8 d8 [2, 45, 49] from ⟨vbup (vbup (unhide S9).1 (unhide P9)) b10, ((unhide S9).2.1.later (unhide P9)).later b10⟩)
  have p10 := below_alloc w10 (.cells #[.int .u8 2, .int .u8 45, .int .u8 49] 5)
  have cB := hide (sameBytes_any a8 n8 d8 [2, 45, 49] (some ⟨w10.heap.size, 0, none⟩) 3 3 [2, 45, 49] (w10.alloc (.cells #[.int .u8 2, .int .u8 45, .int .u8 49] 5)) ((unhide S10).2.later p10) (Bs.lit w10 [2, 45, 49] (by intro x hx; simp at hx; omega) (by simp)))
  rw [decide_eq_true rfl] at cB
  have P10 := hide p10
  clear b10 cV S9 P9 p10
  go_wp2_with fail
  refine same_world (unhide cB) ?_
  clear cB
  go_wp2_with fail
  go_ret
  exact ⟨rfl, vbup (unhide S10).1 (unhide P10)⟩


end Go.Proofs.YtkcblnojgonblaaGreatDoor
