/-
  Where the texts of a column lie, and what Check returns. They write nothing that was there. Conditions: numbers within their kinds.
-/
import Derived.Test.YtgdjeooiimjjcaaDoorClNm
import Derived.BigQuiet
namespace Go.Proofs.YtgdjeooiimjjcaaDoor
open Go.RowKit
set_option linter.unusedVariables false
set_option linter.unusedSimpArgs false

set_option maxHeartbeats 1000000 in
set_option maxRecDepth 100000 in
theorem texts_any (g : Nat) (w : World) : Calls Tryd.prog 32 #[.pointer (some ⟨g, 0, none⟩)] w fun e w' => e = .returned (.agg #[.pointer (some ⟨g, 0, none⟩), .pointer (some ⟨g, 1, none⟩), .pointer (some ⟨g, 2, none⟩), .pointer (some ⟨g, 3, none⟩), .pointer (some ⟨g, 4, none⟩)]) ∧ Below w.heap.size w w' := by
  go_enter Tryd.func32, Tryd.ntmps32
  go_wp2_with fail
  go_region
  go_wp2_with fail
  refine bodyPost_ret (results_cell_row rfl _ _ w.heap.size _ _ _ _ rfl (heap_alloc_new w _) Tryd.underlying55 rfl (by kernel_rfl)) rfl ?_
  exact ⟨rfl, (below_alloc w _).drew⟩

theorem px0 (g : Nat) (w : World) : (Instr.index 55 (.agg #[.pointer (some ⟨g, 0, none⟩), .pointer (some ⟨g, 1, none⟩), .pointer (some ⟨g, 2, none⟩), .pointer (some ⟨g, 3, none⟩), .pointer (some ⟨g, 4, none⟩)]) (.int .i64 0)).run Tryd.prog w = .ok (.pointer (some ⟨g, 0, none⟩)) w := by kernel_rfl
theorem px1 (g : Nat) (w : World) : (Instr.index 55 (.agg #[.pointer (some ⟨g, 0, none⟩), .pointer (some ⟨g, 1, none⟩), .pointer (some ⟨g, 2, none⟩), .pointer (some ⟨g, 3, none⟩), .pointer (some ⟨g, 4, none⟩)]) (.int .i64 1)).run Tryd.prog w = .ok (.pointer (some ⟨g, 1, none⟩)) w := by kernel_rfl
theorem px2 (g : Nat) (w : World) : (Instr.index 55 (.agg #[.pointer (some ⟨g, 0, none⟩), .pointer (some ⟨g, 1, none⟩), .pointer (some ⟨g, 2, none⟩), .pointer (some ⟨g, 3, none⟩), .pointer (some ⟨g, 4, none⟩)]) (.int .i64 2)).run Tryd.prog w = .ok (.pointer (some ⟨g, 2, none⟩)) w := by kernel_rfl
theorem px3 (g : Nat) (w : World) : (Instr.index 55 (.agg #[.pointer (some ⟨g, 0, none⟩), .pointer (some ⟨g, 1, none⟩), .pointer (some ⟨g, 2, none⟩), .pointer (some ⟨g, 3, none⟩), .pointer (some ⟨g, 4, none⟩)]) (.int .i64 3)).run Tryd.prog w = .ok (.pointer (some ⟨g, 3, none⟩)) w := by kernel_rfl
theorem px4 (g : Nat) (w : World) : (Instr.index 55 (.agg #[.pointer (some ⟨g, 0, none⟩), .pointer (some ⟨g, 1, none⟩), .pointer (some ⟨g, 2, none⟩), .pointer (some ⟨g, 3, none⟩), .pointer (some ⟨g, 4, none⟩)]) (.int .i64 4)).run Tryd.prog w = .ok (.pointer (some ⟨g, 4, none⟩)) w := by kernel_rfl

theorem row_later {w w' : World} {g : Nat} {o : Obj} (h : w.heap[g]? = some o) (hb : Below w.heap.size w w') : w'.heap[g]? = some o := (hb.block g (Array.getElem?_eq_some_iff.1 h).1).trans h
theorem row_lt {w : World} {g : Nat} {o : Obj} (h : w.heap[g]? = some o) : g < w.heap.size := (Array.getElem?_eq_some_iff.1 h).1
theorem row_cell {w : World} {g : Nat} {cs : Array Value} {T : TypeId} (h : w.heap[g]? = some (.cells cs T (0, 0))) {j : Nat} {v : Value} (hj : cs[j]? = some v) : w.cell? ⟨g, j, none⟩ = some v := by rw [cell_of_row _ _ j _ _ _ h]; exact hj
theorem bup {w0 w w' : World} (h : Below w0.heap.size w0 w) (k : Below w.heap.size w w') : Below w0.heap.size w0 w' := h.trans (k.mono h.size)

set_option maxHeartbeats 2000000 in
set_option maxRecDepth 100000 in
theorem check_any (p : Co) (w : World) (hK : CoK p) : Calls Tryd.prog 17 #[.agg #[.string p.sc, .string p.ta, .string p.ot, .string p.na, .string p.on, .int .u16 p.ch, .int .u32 p.le, .int .u8 p.ty, .int .u16 p.fl, .int .u8 p.de]] w fun e w' => e = .returned (.int .i64 (if cOk p = true then 0 else 2)) ∧ Below w.heap.size w w' := by
  obtain ⟨w1, hw1⟩ : ∃ z, z = w.alloc (.cells #[.string p.sc, .string p.ta, .string p.ot, .string p.na, .string p.on, .int .u16 p.ch, .int .u32 p.le, .int .u8 p.ty, .int .u16 p.fl, .int .u8 p.de] 35) := ⟨_, rfl⟩
  have b1 := below_alloc w (.cells #[.string p.sc, .string p.ta, .string p.ot, .string p.na, .string p.on, .int .u16 p.ch, .int .u32 p.le, .int .u8 p.ty, .int .u16 p.fl, .int .u8 p.de] 35)
  have r1 := heap_alloc_new w (.cells #[.string p.sc, .string p.ta, .string p.ot, .string p.na, .string p.on, .int .u16 p.ch, .int .u32 p.le, .int .u8 p.ty, .int .u16 p.fl, .int .u8 p.de] 35)
  rw [← hw1] at b1 r1
  have cK := hide (known_any p.ty w1 hK.ty.1 hK.ty.2)
  have HW := hide hw1
  have R1 := hide r1
  have B1 := hide b1
  obtain ⟨E, hE⟩ : ∃ z : Int, z = if cOk p = true then 0 else 2 := ⟨_, rfl⟩
  rw [← hE]
  have HE := hide (show E = if (kn p.ty && (decide (p.sc.size ≤ 255) && (decide (p.ta.size ≤ 255) && (decide (p.ot.size ≤ 255) && (decide (p.na.size ≤ 255) && decide (p.on.size ≤ 255)))))) = true then 0 else 2 from hE)
  clear hE
  clear hK hw1 b1 r1
  go_enter Tryd.func17, Tryd.ntmps17
  go_wp2_with fail
  rw [← unhide HW]
  refine (unhide cK).mono ?_
  rintro e w2 ⟨rfl, b2⟩
  have B2 := hide (bup (unhide B1) b2)
  have R2 := hide (row_later (unhide R1) b2)
  clear b2 cK R1 B1 HW
  generalize kn p.ty = KN at *
  cases KN
  · go_wp2_with fail
    go_ret
    exact ⟨by rw [unhide HE]; rfl, unhide B2⟩
  have cT := hide (texts_any w.heap.size w2)
  go_wp2_with fail
  refine (unhide cT).mono ?_
  rintro e w3 ⟨rfl, b3⟩
  have B3 := hide (bup (unhide B2) b3)
  have R3 := row_later (unhide R2) b3
  have k0 := row_cell R3 (j := 0) (v := .string p.sc) rfl
  have k1 := row_cell R3 (j := 1) (v := .string p.ta) rfl
  have k2 := row_cell R3 (j := 2) (v := .string p.ot) rfl
  have k3 := row_cell R3 (j := 3) (v := .string p.na) rfl
  have k4 := row_cell R3 (j := 4) (v := .string p.on) rfl
  have HR3 := hide R3
  clear R3 b3 cT B2 R2
  generalize p.sc = Ssc at *
  generalize p.ta = Sta at *
  generalize p.ot = Sot at *
  generalize p.na = Sna at *
  generalize p.on = Son at *
  go_wp2_with fail
  refine wp_loop_rounds 6 ?_
  rw [rounds_succ]
  have ix0 := px0 w.heap.size
  by_cases h0 : Ssc.size ≤ 255
  rotate_left
  · have g0 : (255 : Int) < (Ssc.size : Int) := by omega
    have E2 := hide (show E = 2 by rw [unhide HE, decide_eq_false h0]; simp)
    clear HE h0
    go_wp2_with fail
    go_ret
    exact ⟨by rw [unhide E2]; rfl, unhide B3⟩
  have g0 : ¬ (255 : Int) < (Ssc.size : Int) := by omega
  have E0 := hide (decide_eq_true h0)
  clear h0
  go_wp2_with fail
  clear g0 ix0
  rw [rounds_succ]
  have ix1 := px1 w.heap.size
  by_cases h1 : Sta.size ≤ 255
  rotate_left
  · have g1 : (255 : Int) < (Sta.size : Int) := by omega
    have E2 := hide (show E = 2 by rw [unhide HE, unhide E0, decide_eq_false h1]; simp)
    clear HE h1
    go_wp2_with fail
    go_ret
    exact ⟨by rw [unhide E2]; rfl, unhide B3⟩
  have g1 : ¬ (255 : Int) < (Sta.size : Int) := by omega
  have E1 := hide (decide_eq_true h1)
  clear h1
  go_wp2_with fail
  clear g1 ix1
  rw [rounds_succ]
  have ix2 := px2 w.heap.size
  by_cases h2 : Sot.size ≤ 255
  rotate_left
  · have g2 : (255 : Int) < (Sot.size : Int) := by omega
    have E2 := hide (show E = 2 by rw [unhide HE, unhide E0, unhide E1, decide_eq_false h2]; simp)
    clear HE h2
    go_wp2_with fail
    go_ret
    exact ⟨by rw [unhide E2]; rfl, unhide B3⟩
  have g2 : ¬ (255 : Int) < (Sot.size : Int) := by omega
  have E2 := hide (decide_eq_true h2)
  clear h2
  go_wp2_with fail
  clear g2 ix2
  rw [rounds_succ]
  have ix3 := px3 w.heap.size
  by_cases h3 : Sna.size ≤ 255
  rotate_left
  · have g3 : (255 : Int) < (Sna.size : Int) := by omega
    have E2 := hide (show E = 2 by rw [unhide HE, unhide E0, unhide E1, unhide E2, decide_eq_false h3]; simp)
    clear HE h3
    go_wp2_with fail
    go_ret
    exact ⟨by rw [unhide E2]; rfl, unhide B3⟩
  have g3 : ¬ (255 : Int) < (Sna.size : Int) := by omega
  have E3 := hide (decide_eq_true h3)
  clear h3
  go_wp2_with fail
  clear g3 ix3
  rw [rounds_succ]
  have ix4 := px4 w.heap.size
  by_cases h4 : Son.size ≤ 255
  rotate_left
  · have g4 : (255 : Int) < (Son.size : Int) := by omega
    have E2 := hide (show E = 2 by rw [unhide HE, unhide E0, unhide E1, unhide E2, unhide E3, decide_eq_false h4]; simp)
    clear HE h4
    go_wp2_with fail
    go_ret
    exact ⟨by rw [unhide E2]; rfl, unhide B3⟩
  have g4 : ¬ (255 : Int) < (Son.size : Int) := by omega
  have E4 := hide (decide_eq_true h4)
  clear h4
  go_wp2_with fail
  clear g4 ix4
  rw [rounds_succ]
  go_wp2_with fail
  go_ret
  exact ⟨by rw [unhide HE, unhide E0, unhide E1, unhide E2, unhide E3, unhide E4]; rfl, unhide B3⟩

end Go.Proofs.YtgdjeooiimjjcaaDoor
