/-
  The closed statement on the chapter's examples returns true, and writes nothing that was there. Conditions: none.
-/
import Derived.Test.YtenindnahhebcaaLawBack
import Derived.Handy
namespace Go.Proofs.Ytenindnahhebcaa
open Go.RowKit
set_option linter.unusedVariables false
set_option linter.unusedSimpArgs false

theorem cell_top (w : World) (C : Array Value) (t : TypeId) (j b : Nat) (hb : b = w.heap.size) : (w.alloc (.cells C t)).cell? ⟨b, j, none⟩ = C[j]? := by
  subst hb
  exact World.cell?_alloc_mark w C t (0, 0) j
theorem cell_under (w : World) (o : Obj) (b j : Nat) (h : b < w.heap.size) : (w.alloc o).cell? ⟨b, j, none⟩ = w.cell? ⟨b, j, none⟩ := (below_alloc w o).cell (p := ⟨b, j, none⟩) h

set_option maxHeartbeats 4000000 in
theorem lawNames (w : World) : Calls Try.prog 3 #[] w fun e w' => e = .returned (.bool true) ∧ Below w.heap.size w w' := by
  have l1 := form_length_le 250
  have l2 := form_length_le 251
  have l3 := form_length_le 65535
  have l4 := form_length_le 65536
  have l5 := form_length_le 16777216
  have r1 := hide (show decide (form 250 ++ form 251 ++ form 65535 ++ form 65536 ++ form 16777216 = [250, 252, 251, 0, 252, 255, 255, 253, 0, 0, 1, 254, 0, 0, 0, 1, 0, 0, 0, 0]) = true by decide +kernel)
  obtain ⟨W0, hW0⟩ : ∃ W0, W0 = w.alloc (.cells #[.int .u64 250, .int .u64 251, .int .u64 65535, .int .u64 65536, .int .u64 16777216] 23) := ⟨_, rfl⟩
  have c0 : W0.cell? ⟨w.heap.size, 0, none⟩ = some (.int .u64 250) := by subst hW0; simp
  have c1 : W0.cell? ⟨w.heap.size, 1, none⟩ = some (.int .u64 251) := by subst hW0; simp
  have c2 : W0.cell? ⟨w.heap.size, 2, none⟩ = some (.int .u64 65535) := by subst hW0; simp
  have c3 : W0.cell? ⟨w.heap.size, 3, none⟩ = some (.int .u64 65536) := by subst hW0; simp
  have c4 : W0.cell? ⟨w.heap.size, 4, none⟩ = some (.int .u64 16777216) := by subst hW0; simp
  have hb0 : Below w.heap.size w W0 := by subst hW0; exact below_alloc _ _
  have hz0 := hb0.size
  go_enter Try.func3, Try.ntmps3
  go_wp2_with fail
  rw [← hW0]
  clear hW0
  refine wp_loop_rounds 6 ?_
  rw [rounds_succ]
  go_wp2_with fail
  refine (appendInt_any _ _ _ _ _ _ (Bs.nought _) (by omega) (by omega) (by omega)).mono ?_
  rintro e w1 ⟨ao1, k1, rfl, hm1, hb1⟩
  rw [Nat.zero_add, List.nil_append] at hm1
  have hz1 := hb1.size
  have d1 := cell_later hb1 c1
  go_wp2_with fail
  rw [rounds_succ]
  go_wp2_with fail
  refine (appendInt_any _ _ _ _ _ _ hm1.bs (by omega) (by omega) (by omega)).mono ?_
  rintro e w2 ⟨ao2, k2, rfl, hm2, hb2⟩
  have hz2 := hb2.size
  have d2 := cell_later hb2 (cell_later hb1 c2)
  clear hm1
  go_wp2_with fail
  rw [rounds_succ]
  go_wp2_with fail
  refine (appendInt_any _ _ _ _ _ _ hm2.bs (by omega) (by omega) (by omega)).mono ?_
  rintro e w3 ⟨ao3, k3, rfl, hm3, hb3⟩
  have hz3 := hb3.size
  have d3 := cell_later hb3 (cell_later hb2 (cell_later hb1 c3))
  clear hm2
  go_wp2_with fail
  rw [rounds_succ]
  go_wp2_with fail
  refine (appendInt_any _ _ _ _ _ _ hm3.bs (by omega) (by omega) (by omega)).mono ?_
  rintro e w4 ⟨ao4, k4, rfl, hm4, hb4⟩
  have hz4 := hb4.size
  have d4 := cell_later hb4 (cell_later hb3 (cell_later hb2 (cell_later hb1 c4)))
  clear hm3
  go_wp2_with fail
  rw [rounds_succ]
  go_wp2_with fail
  refine (appendInt_any _ _ _ _ _ _ hm4.bs (by omega) (by omega) (by omega)).mono ?_
  rintro e w5 ⟨ao5, k5, rfl, hm5, hb5⟩
  have hz5 := hb5.size
  have hbel5 : Below w.heap.size w w5 := ((((hb0.trans (hb1.mono hz0)).trans (hb2.mono (by omega))).trans (hb3.mono (by omega))).trans (hb4.mono (by omega))).trans (hb5.mono (by omega))
  clear hm4 c0 c1 c2 c3 c4 d1 d2 d3 d4 hb0 hb1 hb2 hb3 hb4 hb5
  go_wp2_with fail
  rw [rounds_succ]
  go_wp2_with fail
  have b6 : Bs (w5.alloc (.cells #[.int .u8 250, .int .u8 252, .int .u8 251, .int .u8 0, .int .u8 252, .int .u8 255, .int .u8 255, .int .u8 253, .int .u8 0, .int .u8 0, .int .u8 1, .int .u8 254, .int .u8 0, .int .u8 0, .int .u8 0, .int .u8 1, .int .u8 0, .int .u8 0, .int .u8 0, .int .u8 0] 5)) (some ⟨w5.heap.size, 0, none⟩) 20 20 [250, 252, 251, 0, 252, 255, 255, 253, 0, 0, 1, 254, 0, 0, 0, 1, 0, 0, 0, 0] := Bs.lit w5 [250, 252, 251, 0, 252, 255, 255, 253, 0, 0, 1, 254, 0, 0, 0, 1, 0, 0, 0, 0] (by intro x hx; simp at hx; omega) (by decide)
  refine (sameBytes_any _ _ _ _ _ _ _ _ _ (hm5.bs.later (below_alloc w5 _)) b6).mono ?_
  rw [unhide r1]
  rintro e w6 ⟨rfl, hw6⟩
  have hb6 : Below w5.heap.size w5 w6 := by rw [hw6]; exact below_alloc w5 _
  have hbel6 : Below w.heap.size w w6 := hbel5.trans (hb6.mono hbel5.size)
  clear hw6 b6 hm5 hb6 hbel5 l1 l2 l3 l4 l5
  have hz6 := hbel6.size
  go_wp2_with fail
  obtain ⟨W7, hW7⟩ : ∃ W7, W7 = (((((w6.alloc (Obj.cells #[Value.int IntKind.u8 251] 5)).alloc (Obj.cells #[Value.int IntKind.u8 255] 5)).alloc (Obj.cells #[Value.int IntKind.u8 253, Value.int IntKind.u8 1, Value.int IntKind.u8 2] 5)).alloc (Obj.cells #[Value.slice none 0 0, Value.slice (some { block := w6.heap.size, off := 0 }) 1 1, Value.slice (some { block := w6.heap.size + 1, off := 0 }) 1 1, Value.slice (some { block := w6.heap.size + 1 + 1, off := 0 }) 3 3] 22)).alloc (Obj.cells #[Value.int IntKind.i64 4, Value.int IntKind.i64 5, Value.int IntKind.i64 5, Value.int IntKind.i64 4] 28)) := ⟨_, rfl⟩
  rw [← hW7]
  have q0 : W7.cell? ⟨w6.heap.size + 1 + 1 + 1, 0, none⟩ = some (.slice none 0 0) := by subst hW7; rw [cell_under _ _ _ _ (by simp), cell_top _ _ _ _ _ (by simp)]; rfl
  have q1 : W7.cell? ⟨w6.heap.size + 1 + 1 + 1, 1, none⟩ = some (.slice (some ⟨w6.heap.size, 0, none⟩) 1 1) := by subst hW7; rw [cell_under _ _ _ _ (by simp), cell_top _ _ _ _ _ (by simp)]; rfl
  have q2 : W7.cell? ⟨w6.heap.size + 1 + 1 + 1, 2, none⟩ = some (.slice (some ⟨w6.heap.size + 1, 0, none⟩) 1 1) := by subst hW7; rw [cell_under _ _ _ _ (by simp), cell_top _ _ _ _ _ (by simp)]; rfl
  have q3 : W7.cell? ⟨w6.heap.size + 1 + 1 + 1, 3, none⟩ = some (.slice (some ⟨w6.heap.size + 1 + 1, 0, none⟩) 3 3) := by subst hW7; rw [cell_under _ _ _ _ (by simp), cell_top _ _ _ _ _ (by simp)]; rfl
  have v0 : W7.cell? ⟨w6.heap.size + 1 + 1 + 1 + 1, 0, none⟩ = some (.int .i64 4) := by subst hW7; rw [cell_top _ _ _ _ _ (by simp)]; rfl
  have v1 : W7.cell? ⟨w6.heap.size + 1 + 1 + 1 + 1, 1, none⟩ = some (.int .i64 5) := by subst hW7; rw [cell_top _ _ _ _ _ (by simp)]; rfl
  have v2 : W7.cell? ⟨w6.heap.size + 1 + 1 + 1 + 1, 2, none⟩ = some (.int .i64 5) := by subst hW7; rw [cell_top _ _ _ _ _ (by simp)]; rfl
  have v3 : W7.cell? ⟨w6.heap.size + 1 + 1 + 1 + 1, 3, none⟩ = some (.int .i64 4) := by subst hW7; rw [cell_top _ _ _ _ _ (by simp)]; rfl
  have hb7 : Below w6.heap.size w6 W7 := by subst hW7; exact ((((below_alloc _ _).alloc (by simp) _).alloc (by simp; omega) _).alloc (by simp; omega) _).alloc (by simp; omega) _
  have t1 := hide (show Bs W7 (some ⟨w6.heap.size, 0, none⟩) 1 1 [251] from by
    have := Bs.lit w6 [251] (by intro x hx; simp at hx; omega) (by decide)
    subst hW7
    exact this.later ((((below_alloc _ _).alloc (by simp) _).alloc (by simp) _).alloc (by simp) _))
  have t2 := hide (show Bs W7 (some ⟨w6.heap.size + 1, 0, none⟩) 1 1 [255] from by
    have := Bs.lit (w6.alloc (Obj.cells #[Value.int IntKind.u8 251] 5)) [255] (by intro x hx; simp at hx; omega) (by decide)
    subst hW7
    simp only [World.size_alloc] at this
    exact this.later (((below_alloc _ _).alloc (by simp) _).alloc (by simp) _))
  have t3 := hide (show Bs W7 (some ⟨w6.heap.size + 1 + 1, 0, none⟩) 3 3 [253, 1, 2] from by
    have := Bs.lit ((w6.alloc (Obj.cells #[Value.int IntKind.u8 251] 5)).alloc (Obj.cells #[Value.int IntKind.u8 255] 5)) [253, 1, 2] (by intro x hx; simp at hx; omega) (by decide)
    subst hW7
    simp only [World.size_alloc] at this
    exact this.later ((below_alloc _ _).alloc (by simp) _))
  have e1 := hide (show readInt [251] = (0, 0, 5) by decide +kernel)
  have e2 := hide (show readInt [255] = (0, 0, 5) by decide +kernel)
  have e3 := hide (show readInt [253, 1, 2] = (0, 0, 4) by decide +kernel)
  have hz7 := hb7.size
  have hbel7 : Below w.heap.size w W7 := hbel6.trans (hb7.mono hz6)
  clear hW7 hb7 hbel6
  refine wp_loop_rounds 5 ?_
  rw [rounds_succ]
  go_wp2_with fail
  refine same_world (readInt_any _ _ _ _ _ (Bs.nought _)) ?_
  go_wp2_with fail
  rw [rounds_succ]
  go_wp2_with fail
  have cc := readInt_any _ _ _ _ _ (unhide t1)
  rw [unhide e1] at cc
  refine same_world cc ?_
  clear cc
  go_wp2_with fail
  rw [rounds_succ]
  go_wp2_with fail
  have cc := readInt_any _ _ _ _ _ (unhide t2)
  rw [unhide e2] at cc
  refine same_world cc ?_
  clear cc
  go_wp2_with fail
  rw [rounds_succ]
  go_wp2_with fail
  have cc := readInt_any _ _ _ _ _ (unhide t3)
  rw [unhide e3] at cc
  refine same_world cc ?_
  clear cc
  go_wp2_with fail
  rw [rounds_succ]
  clear t1 t2 t3
  go_wp2_with fail
  have f1 := hide (show readText [3, 97, 98] = (⟨#[]⟩, 0, 4) by decide +kernel)
  have f2 := hide (show readEnded [97, 98] = (⟨#[]⟩, 0, 4) by decide +kernel)
  have f3 := hide (show ¬ idx0 (nums ⟨#[97, 0]⟩) < 0 by decide +kernel)
  have u1 : Bs (W7.alloc (.cells #[.int .u8 3, .int .u8 97, .int .u8 98] 5)) (some ⟨W7.heap.size, 0, none⟩) 3 3 [3, 97, 98] := Bs.lit W7 [3, 97, 98] (by intro x hx; simp at hx; omega) (by decide)
  refine (readText_any _ _ _ _ _ u1).mono ?_
  rw [unhide f1]
  rintro e w8 ⟨rfl, hw8⟩
  have hb8 : Below W7.heap.size W7 w8 := by rw [hw8]; exact below_alloc W7 _
  have hbel8 : Below w.heap.size w w8 := hbel7.trans (hb8.mono hbel7.size)
  clear hw8 u1 hb8
  go_wp2_with fail
  refine same_world (appendFixed_bad _ _ _ _ _ _ (by omega) (by omega) (by decide)) ?_
  go_wp2_with fail
  refine same_world (appendFixed_bad _ _ _ _ _ _ (by omega) (by omega) (by decide)) ?_
  go_wp2_with fail
  have u2 : Bs (w8.alloc (.cells #[.int .u8 97, .int .u8 98] 5)) (some ⟨w8.heap.size, 0, none⟩) 2 2 [97, 98] := Bs.lit w8 [97, 98] (by intro x hx; simp at hx; omega) (by decide)
  refine (readEnded_any _ _ _ _ _ u2).mono ?_
  rw [unhide f2]
  rintro e w9 ⟨rfl, hw9⟩
  have hb9 : Below w8.heap.size w8 w9 := by rw [hw9]; exact below_alloc w8 _
  have hbel9 : Below w.heap.size w w9 := hbel8.trans (hb9.mono hbel8.size)
  clear hw9 u2 hb9
  go_wp2_with fail
  refine same_world (appendEnded_bad _ _ _ _ _ (by have := unhide f3; omega)) ?_
  go_wp2_with fail
  refine (lives_any _).mono ?_
  rintro e w10 ⟨rfl, hb10⟩
  go_wp2_with fail
  go_ret
  exact ⟨rfl, hbel9.trans (hb10.mono hbel9.size)⟩

end Go.Proofs.Ytenindnahhebcaa
