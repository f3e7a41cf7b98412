/-
  What number and clockOf of package value return. They write nothing that was there. Conditions: the bytes can be read.
  What readFields of package value returns: twelve bytes, how many were read, an error. It writes nothing that was there. Conditions: the slices can be read; no first byte that may be is greater than 12.
  What readDate of package value returns. It writes nothing that was there. Conditions: the bytes can be read.
  What readTime of package value returns. It writes nothing that was there. Conditions: the bytes can be read.
-/
import Derived.Test.YtgldbainhncneaaGreatDoorMLf
import Derived.Test.YtgldbainhncneaaGreatDoorMA
import Derived.Deep.DeepCutAuto
import Derived.Deep.RegionHeld3
import Derived.Deep.RegionWith
import Derived.BigQuiet
import Derived.Test.YtgldbainhncneaaGreatDoorMPl
import Derived.Test.YtgldbainhncneaaGreatDoorClRow
import Derived.Test.YtgldbainhncneaaGreatDoorShl
import Derived.Deep.WholeRow
import Derived.Laws.CopyOwn
import Derived.Deep.RegionLaw
namespace Go.Proofs.YtgldbainhncneaaGreatDoor
open Go.RowKit
set_option linter.unusedVariables false
set_option linter.unusedSimpArgs false

/-- A struct's block and two more. -/
theorem results_row_tmp2 {P : Program} {fn : Func} {p u v : Tmp} {ty : TypeId} (h : fn.results = #[.cell p ty, .tmp u, .tmp v]) (tmps : Array Value) (w : World) (g : Nat) (cs : Array Value) (hp : tmps.getD p undef = .pointer (some ⟨g, 0, none⟩)) (hl : (loadVar ty ⟨g, 0, none⟩).run P w = .ok (.agg cs) w) :
    (results fn tmps).run P w = .ok (.tuple #[.agg cs, tmps.getD u undef, tmps.getD v undef]) w := by
  have hp' : tmps[p]?.getD undef = .pointer (some ⟨g, 0, none⟩) := by simpa using hp
  simp [results, h, Sem.run_bind, Result.andThen, hp', asAddr, hl]

theorem row_sets8 {w : World} {g : Nat} {T : TypeId} {v0 v1 v2 v3 v4 v5 v6 v7 z0 z1 z2 z3 z4 z5 z6 z7 : Value} (h : w.heap[g]? = some (.cells #[z0, z1, z2, z3, z4, z5, z6, z7] T (0, 0))) : ((((((((w.setCell ⟨g, 0, none⟩ v0).setCell ⟨g, 1, none⟩ v1).setCell ⟨g, 2, none⟩ v2).setCell ⟨g, 3, none⟩ v3).setCell ⟨g, 4, none⟩ v4).setCell ⟨g, 5, none⟩ v5).setCell ⟨g, 6, none⟩ v6).setCell ⟨g, 7, none⟩ v7).heap[g]? = some (.cells #[v0, v1, v2, v3, v4, v5, v6, v7] T (0, 0)) := by
  have h0 : (w.setCell ⟨g, 0, none⟩ v0).heap[g]? = some (.cells #[v0, z1, z2, z3, z4, z5, z6, z7] T (0, 0)) := heap_setCell_same _ g 0 _ _ _ h
  have h1 : ((w.setCell ⟨g, 0, none⟩ v0).setCell ⟨g, 1, none⟩ v1).heap[g]? = some (.cells #[v0, v1, z2, z3, z4, z5, z6, z7] T (0, 0)) := heap_setCell_same _ g 1 _ _ _ h0
  have h2 : (((w.setCell ⟨g, 0, none⟩ v0).setCell ⟨g, 1, none⟩ v1).setCell ⟨g, 2, none⟩ v2).heap[g]? = some (.cells #[v0, v1, v2, z3, z4, z5, z6, z7] T (0, 0)) := heap_setCell_same _ g 2 _ _ _ h1
  have h3 : ((((w.setCell ⟨g, 0, none⟩ v0).setCell ⟨g, 1, none⟩ v1).setCell ⟨g, 2, none⟩ v2).setCell ⟨g, 3, none⟩ v3).heap[g]? = some (.cells #[v0, v1, v2, v3, z4, z5, z6, z7] T (0, 0)) := heap_setCell_same _ g 3 _ _ _ h2
  have h4 : (((((w.setCell ⟨g, 0, none⟩ v0).setCell ⟨g, 1, none⟩ v1).setCell ⟨g, 2, none⟩ v2).setCell ⟨g, 3, none⟩ v3).setCell ⟨g, 4, none⟩ v4).heap[g]? = some (.cells #[v0, v1, v2, v3, v4, z5, z6, z7] T (0, 0)) := heap_setCell_same _ g 4 _ _ _ h3
  have h5 : ((((((w.setCell ⟨g, 0, none⟩ v0).setCell ⟨g, 1, none⟩ v1).setCell ⟨g, 2, none⟩ v2).setCell ⟨g, 3, none⟩ v3).setCell ⟨g, 4, none⟩ v4).setCell ⟨g, 5, none⟩ v5).heap[g]? = some (.cells #[v0, v1, v2, v3, v4, v5, z6, z7] T (0, 0)) := heap_setCell_same _ g 5 _ _ _ h4
  have h6 : (((((((w.setCell ⟨g, 0, none⟩ v0).setCell ⟨g, 1, none⟩ v1).setCell ⟨g, 2, none⟩ v2).setCell ⟨g, 3, none⟩ v3).setCell ⟨g, 4, none⟩ v4).setCell ⟨g, 5, none⟩ v5).setCell ⟨g, 6, none⟩ v6).heap[g]? = some (.cells #[v0, v1, v2, v3, v4, v5, v6, z7] T (0, 0)) := heap_setCell_same _ g 6 _ _ _ h5
  have h7 : ((((((((w.setCell ⟨g, 0, none⟩ v0).setCell ⟨g, 1, none⟩ v1).setCell ⟨g, 2, none⟩ v2).setCell ⟨g, 3, none⟩ v3).setCell ⟨g, 4, none⟩ v4).setCell ⟨g, 5, none⟩ v5).setCell ⟨g, 6, none⟩ v6).setCell ⟨g, 7, none⟩ v7).heap[g]? = some (.cells #[v0, v1, v2, v3, v4, v5, v6, v7] T (0, 0)) := heap_setCell_same _ g 7 _ _ _ h6
  exact h7
theorem cell_sets8 {w : World} {g k j : Nat} {v0 v1 v2 v3 v4 v5 v6 v7 : Value} (h : k ≠ g) : ((((((((w.setCell ⟨g, 0, none⟩ v0).setCell ⟨g, 1, none⟩ v1).setCell ⟨g, 2, none⟩ v2).setCell ⟨g, 3, none⟩ v3).setCell ⟨g, 4, none⟩ v4).setCell ⟨g, 5, none⟩ v5).setCell ⟨g, 6, none⟩ v6).setCell ⟨g, 7, none⟩ v7).cell? ⟨k, j, none⟩ = w.cell? ⟨k, j, none⟩ := by
  have e : ((((((((w.setCell ⟨g, 0, none⟩ v0).setCell ⟨g, 1, none⟩ v1).setCell ⟨g, 2, none⟩ v2).setCell ⟨g, 3, none⟩ v3).setCell ⟨g, 4, none⟩ v4).setCell ⟨g, 5, none⟩ v5).setCell ⟨g, 6, none⟩ v6).setCell ⟨g, 7, none⟩ v7).heap[k]? = w.heap[k]? := by
    rw [heap_setCell_other _ _ _ _ h, heap_setCell_other _ _ _ _ h, heap_setCell_other _ _ _ _ h, heap_setCell_other _ _ _ _ h, heap_setCell_other _ _ _ _ h, heap_setCell_other _ _ _ _ h, heap_setCell_other _ _ _ _ h, heap_setCell_other _ _ _ _ h]
  exact World.cell?_of_block e
theorem drew_cell (w : World) (a : Addr) : w.drew.cell? a = w.cell? a := rfl
theorem drew_rw' {w : World} {g : Nat} {o : Obj} (h : w.heap[g]? = some o) : w.drew.heap[g]? = some o := h
theorem cell_sets8d {w : World} {g k j : Nat} {v0 v1 v2 v3 v4 v5 v6 v7 : Value} (h : k ≠ g) : ((((((((w.setCell ⟨g, 0, none⟩ v0).setCell ⟨g, 1, none⟩ v1).setCell ⟨g, 2, none⟩ v2).setCell ⟨g, 3, none⟩ v3).setCell ⟨g, 4, none⟩ v4).setCell ⟨g, 5, none⟩ v5).setCell ⟨g, 6, none⟩ v6).setCell ⟨g, 7, none⟩ v7).drew.cell? ⟨k, j, none⟩ = w.cell? ⟨k, j, none⟩ := (drew_cell _ _).trans (cell_sets8 h)
theorem row_sets8d {w : World} {g : Nat} {T : TypeId} {v0 v1 v2 v3 v4 v5 v6 v7 z0 z1 z2 z3 z4 z5 z6 z7 : Value} (h : w.heap[g]? = some (.cells #[z0, z1, z2, z3, z4, z5, z6, z7] T (0, 0))) : ((((((((w.setCell ⟨g, 0, none⟩ v0).setCell ⟨g, 1, none⟩ v1).setCell ⟨g, 2, none⟩ v2).setCell ⟨g, 3, none⟩ v3).setCell ⟨g, 4, none⟩ v4).setCell ⟨g, 5, none⟩ v5).setCell ⟨g, 6, none⟩ v6).setCell ⟨g, 7, none⟩ v7).drew.heap[g]? = some (.cells #[v0, v1, v2, v3, v4, v5, v6, v7] T (0, 0)) := drew_rw' (row_sets8 h)
theorem below_sets8 {w0 w : World} {B g : Nat} {v0 v1 v2 v3 v4 v5 v6 v7 : Value} (h : Below B w0 w) (hg : B ≤ g) : Below B w0 ((((((((w.setCell ⟨g, 0, none⟩ v0).setCell ⟨g, 1, none⟩ v1).setCell ⟨g, 2, none⟩ v2).setCell ⟨g, 3, none⟩ v3).setCell ⟨g, 4, none⟩ v4).setCell ⟨g, 5, none⟩ v5).setCell ⟨g, 6, none⟩ v6).setCell ⟨g, 7, none⟩ v7) := (((((((h.setCell hg _).setCell hg _).setCell hg _).setCell hg _).setCell hg _).setCell hg _).setCell hg _).setCell hg _

set_option maxHeartbeats 1000000 in
set_option maxRecDepth 100000 in
theorem number_any (ao : Option Addr) (n c : Nat) (l : List Int) (w : World) (h : Bs w ao n c l) (h1 : 1 ≤ n) (h4 : n ≤ 4) : Calls Tryz.prog 88 #[.slice ao n c] w fun e w' => e = .returned (.int .i64 (val l n)) ∧ w' = w := by
  have q := readFixed_any ao n c l (n : Int) w h
  have hl := h.len
  have e1 : readFixed l (n : Int) = (val l n, 0) := by
    unfold readFixed
    rw [if_neg (by omega), if_neg (by omega), Int.toNat_natCast]
  rw [e1] at q
  have vb := val_bounds h.byt n
  have hp : (2 : Int) ^ (8 * n) ≤ 4294967296 := by
    match n, h1, h4 with
    | 1, _, _ | 2, _, _ | 3, _, _ | 4, _, _ => decide
  have cQ := hide q
  have hle := h.le
  have hmx := h.max
  generalize val l n = V at *
  have hV : wrap64 V = V := by unfold wrap64; omega
  clear q e1 h
  go_enter Tryz.func88, Tryz.ntmps88
  go_wp2_with (go_at_call 85; refine same_world (unhide cQ) ?_)
  go_ret
  exact ⟨rfl, rfl⟩

set_option maxHeartbeats 1000000 in
set_option maxRecDepth 100000 in
theorem clockOf_4 (g : Nat) (x0 x1 x2 x3 x4 x5 x6 x7 x8 x9 x10 x11 : Int) (w : World) (hb : ∀ z ∈ [x0, x1, x2, x3, x4, x5, x6, x7, x8, x9, x10, x11], 0 ≤ z ∧ z ≤ 255) (hr : w.heap[g]? = some (.cells #[.int .u8 x0, .int .u8 x1, .int .u8 x2, .int .u8 x3, .int .u8 x4, .int .u8 x5, .int .u8 x6, .int .u8 x7, .int .u8 x8, .int .u8 x9, .int .u8 x10, .int .u8 x11] 110 (0, 0))) : Calls Tryz.prog 87 #[.slice (some ⟨g, 4, none⟩) 8 8] w fun e w' => e = .returned (.agg #[.bool false, .int .i64 0, .int .i64 0, .int .i64 0, .int .i64 x4, .int .i64 x5, .int .i64 x6, .int .i64 (val [x7, x8, x9, x10] 4)]) ∧ Below w.heap.size w w' := by
  have b1 := below_alloc w (.cells #[.bool false, .int .i64 0, .int .i64 0, .int .i64 0, .int .i64 0, .int .i64 0, .int .i64 0, .int .i64 0] 30)
  have hlt := (Array.getElem?_eq_some_iff.1 hr).1
  have r1 := vrow_later hr b1
  obtain ⟨w1, hw1⟩ : ∃ z, z = w.alloc (.cells #[.bool false, .int .i64 0, .int .i64 0, .int .i64 0, .int .i64 0, .int .i64 0, .int .i64 0, .int .i64 0] 30) := ⟨_, rfl⟩
  have q1 := heap_alloc_new w (.cells #[.bool false, .int .i64 0, .int .i64 0, .int .i64 0, .int .i64 0, .int .i64 0, .int .i64 0, .int .i64 0] 30)
  rw [← hw1] at b1 r1 q1
  have k4 := vrow_cell r1 (j := 4) (v := .int .u8 x4) rfl
  have k5 := vrow_cell r1 (j := 5) (v := .int .u8 x5) rfl
  have k6 := vrow_cell r1 (j := 6) (v := .int .u8 x6) rfl
  have hN : ∀ wx : World, Below w1.heap.size w1 wx → Bs wx (some ⟨g, 7, none⟩) 4 5 [x7, x8, x9, x10] := fun wx bx =>
    ⟨rfl, by omega, by omega, fun z => by (cases z), fun z hz => hb z (by simp at hz ⊢; rcases hz with h | h | h | h <;> simp [h]), .inr ⟨g, 7, rfl, fun i hi => by
      rw [cell_of_row wx g (7 + i) _ _ _ (vrow_later r1 bx)]
      match i, hi with
      | 0, _ => rfl
      | 1, _ => rfl
      | 2, _ => rfl
      | 3, _ => rfl⟩⟩
  have cN := hide (fun wx bx => number_any _ _ _ _ wx (hN wx bx) (by omega) (by omega))
  have vb := val_bounds (hN w1 (Below.refl _ _)).byt 4
  generalize val [x7, x8, x9, x10] 4 = V at *
  have hgn : g ≠ w.heap.size := by omega
  have u4 := hb x4 (by simp)
  have q4 : IntKind.i64.wrap x4 = x4 := by rw [IntKind.wrap_i64]; omega
  have u5 := hb x5 (by simp)
  have q5 : IntKind.i64.wrap x5 = x5 := by rw [IntKind.wrap_i64]; omega
  have u6 := hb x6 (by simp)
  have q6 : IntKind.i64.wrap x6 = x6 := by rw [IntKind.wrap_i64]; omega
  have HW := hide hw1
  have HB1 := hide b1
  have HQ := hide q1
  have c0 := vrow_cell q1 (j := 0) (v := .bool false) rfl
  have f0 := frozen_of_row w1 _ 0 _ _ q1
  have c1 := vrow_cell q1 (j := 1) (v := .int .i64 0) rfl
  have f1 := frozen_of_row w1 _ 1 _ _ q1
  have c2 := vrow_cell q1 (j := 2) (v := .int .i64 0) rfl
  have f2 := frozen_of_row w1 _ 2 _ _ q1
  have c3 := vrow_cell q1 (j := 3) (v := .int .i64 0) rfl
  have f3 := frozen_of_row w1 _ 3 _ _ q1
  have c4 := vrow_cell q1 (j := 4) (v := .int .i64 0) rfl
  have f4 := frozen_of_row w1 _ 4 _ _ q1
  have c5 := vrow_cell q1 (j := 5) (v := .int .i64 0) rfl
  have f5 := frozen_of_row w1 _ 5 _ _ q1
  have c6 := vrow_cell q1 (j := 6) (v := .int .i64 0) rfl
  have f6 := frozen_of_row w1 _ 6 _ _ q1
  have c7 := vrow_cell q1 (j := 7) (v := .int .i64 0) rfl
  have f7 := frozen_of_row w1 _ 7 _ _ q1
  have HR := hide r1
  have KX := hide (show ∀ v0 v1 v2 v3 v4 v5 v6 v7 : Value, ((((((((w1.setCell ⟨w.heap.size, 0, none⟩ v0).setCell ⟨w.heap.size, 1, none⟩ v1).setCell ⟨w.heap.size, 2, none⟩ v2).setCell ⟨w.heap.size, 3, none⟩ v3).setCell ⟨w.heap.size, 4, none⟩ v4).setCell ⟨w.heap.size, 5, none⟩ v5).setCell ⟨w.heap.size, 6, none⟩ v6).setCell ⟨w.heap.size, 7, none⟩ v7).drew.cell? ⟨g, 4, none⟩ = some (.int .u8 x4) ∧ ((((((((w1.setCell ⟨w.heap.size, 0, none⟩ v0).setCell ⟨w.heap.size, 1, none⟩ v1).setCell ⟨w.heap.size, 2, none⟩ v2).setCell ⟨w.heap.size, 3, none⟩ v3).setCell ⟨w.heap.size, 4, none⟩ v4).setCell ⟨w.heap.size, 5, none⟩ v5).setCell ⟨w.heap.size, 6, none⟩ v6).setCell ⟨w.heap.size, 7, none⟩ v7).drew.cell? ⟨g, 5, none⟩ = some (.int .u8 x5) ∧ ((((((((w1.setCell ⟨w.heap.size, 0, none⟩ v0).setCell ⟨w.heap.size, 1, none⟩ v1).setCell ⟨w.heap.size, 2, none⟩ v2).setCell ⟨w.heap.size, 3, none⟩ v3).setCell ⟨w.heap.size, 4, none⟩ v4).setCell ⟨w.heap.size, 5, none⟩ v5).setCell ⟨w.heap.size, 6, none⟩ v6).setCell ⟨w.heap.size, 7, none⟩ v7).drew.cell? ⟨g, 6, none⟩ = some (.int .u8 x6) from fun v0 v1 v2 v3 v4 v5 v6 v7 => ⟨(cell_sets8d hgn).trans k4, (cell_sets8d hgn).trans k5, (cell_sets8d hgn).trans k6⟩)
  clear b1 q1 hw1 hN hb hr
  go_enter Tryz.func87, Tryz.ntmps87
  go_upto_region 1 with fail
  rw [← unhide HW]
  go_region_held3 (fun w' => w'.cell? ⟨g, 4, none⟩ = some (.int .u8 x4) ∧ w'.cell? ⟨g, 5, none⟩ = some (.int .u8 x5) ∧ w'.cell? ⟨g, 6, none⟩ = some (.int .u8 x6)) (first | with_reducible exact unhide KX _ _ _ _ _ _ _ _ | go_keep) (first | (go_at_call 88; (with_reducible refine same_world (unhide cN w1.drew ⟨rfl, rfl, rfl, Nat.le_refl _, fun _ _ => rfl⟩) ?_)) | (go_at_call 88; (with_reducible refine same_world (unhide cN w1 (Below.refl _ _)) ?_)))
  all_goals
    go_wp2_with fail
    refine bodyPost_ret (results_cell_row rfl _ _ w.heap.size _ _ _ _ rfl (row_sets8d (unhide HQ)) Tryz.underlying30 rfl (by kernel_rfl)) rfl ?_
    exact ⟨rfl, Below.drew (below_sets8 (unhide HB1) (Nat.le_refl _))⟩

set_option maxHeartbeats 1000000 in
set_option maxRecDepth 100000 in
theorem clockOf_5 (g : Nat) (x0 x1 x2 x3 x4 x5 x6 x7 x8 x9 x10 x11 : Int) (w : World) (hb : ∀ z ∈ [x0, x1, x2, x3, x4, x5, x6, x7, x8, x9, x10, x11], 0 ≤ z ∧ z ≤ 255) (hr : w.heap[g]? = some (.cells #[.int .u8 x0, .int .u8 x1, .int .u8 x2, .int .u8 x3, .int .u8 x4, .int .u8 x5, .int .u8 x6, .int .u8 x7, .int .u8 x8, .int .u8 x9, .int .u8 x10, .int .u8 x11] 110 (0, 0))) : Calls Tryz.prog 87 #[.slice (some ⟨g, 5, none⟩) 7 7] w fun e w' => e = .returned (.agg #[.bool false, .int .i64 0, .int .i64 0, .int .i64 0, .int .i64 x5, .int .i64 x6, .int .i64 x7, .int .i64 (val [x8, x9, x10, x11] 4)]) ∧ Below w.heap.size w w' := by
  have b1 := below_alloc w (.cells #[.bool false, .int .i64 0, .int .i64 0, .int .i64 0, .int .i64 0, .int .i64 0, .int .i64 0, .int .i64 0] 30)
  have hlt := (Array.getElem?_eq_some_iff.1 hr).1
  have r1 := vrow_later hr b1
  obtain ⟨w1, hw1⟩ : ∃ z, z = w.alloc (.cells #[.bool false, .int .i64 0, .int .i64 0, .int .i64 0, .int .i64 0, .int .i64 0, .int .i64 0, .int .i64 0] 30) := ⟨_, rfl⟩
  have q1 := heap_alloc_new w (.cells #[.bool false, .int .i64 0, .int .i64 0, .int .i64 0, .int .i64 0, .int .i64 0, .int .i64 0, .int .i64 0] 30)
  rw [← hw1] at b1 r1 q1
  have k5 := vrow_cell r1 (j := 5) (v := .int .u8 x5) rfl
  have k6 := vrow_cell r1 (j := 6) (v := .int .u8 x6) rfl
  have k7 := vrow_cell r1 (j := 7) (v := .int .u8 x7) rfl
  have hN : ∀ wx : World, Below w1.heap.size w1 wx → Bs wx (some ⟨g, 8, none⟩) 4 4 [x8, x9, x10, x11] := fun wx bx =>
    ⟨rfl, by omega, by omega, fun z => by (cases z), fun z hz => hb z (by simp at hz ⊢; rcases hz with h | h | h | h <;> simp [h]), .inr ⟨g, 8, rfl, fun i hi => by
      rw [cell_of_row wx g (8 + i) _ _ _ (vrow_later r1 bx)]
      match i, hi with
      | 0, _ => rfl
      | 1, _ => rfl
      | 2, _ => rfl
      | 3, _ => rfl⟩⟩
  have cN := hide (fun wx bx => number_any _ _ _ _ wx (hN wx bx) (by omega) (by omega))
  have vb := val_bounds (hN w1 (Below.refl _ _)).byt 4
  generalize val [x8, x9, x10, x11] 4 = V at *
  have hgn : g ≠ w.heap.size := by omega
  have u5 := hb x5 (by simp)
  have q5 : IntKind.i64.wrap x5 = x5 := by rw [IntKind.wrap_i64]; omega
  have u6 := hb x6 (by simp)
  have q6 : IntKind.i64.wrap x6 = x6 := by rw [IntKind.wrap_i64]; omega
  have u7 := hb x7 (by simp)
  have q7 : IntKind.i64.wrap x7 = x7 := by rw [IntKind.wrap_i64]; omega
  have HW := hide hw1
  have HB1 := hide b1
  have HQ := hide q1
  have c0 := vrow_cell q1 (j := 0) (v := .bool false) rfl
  have f0 := frozen_of_row w1 _ 0 _ _ q1
  have c1 := vrow_cell q1 (j := 1) (v := .int .i64 0) rfl
  have f1 := frozen_of_row w1 _ 1 _ _ q1
  have c2 := vrow_cell q1 (j := 2) (v := .int .i64 0) rfl
  have f2 := frozen_of_row w1 _ 2 _ _ q1
  have c3 := vrow_cell q1 (j := 3) (v := .int .i64 0) rfl
  have f3 := frozen_of_row w1 _ 3 _ _ q1
  have c4 := vrow_cell q1 (j := 4) (v := .int .i64 0) rfl
  have f4 := frozen_of_row w1 _ 4 _ _ q1
  have c5 := vrow_cell q1 (j := 5) (v := .int .i64 0) rfl
  have f5 := frozen_of_row w1 _ 5 _ _ q1
  have c6 := vrow_cell q1 (j := 6) (v := .int .i64 0) rfl
  have f6 := frozen_of_row w1 _ 6 _ _ q1
  have c7 := vrow_cell q1 (j := 7) (v := .int .i64 0) rfl
  have f7 := frozen_of_row w1 _ 7 _ _ q1
  have HR := hide r1
  have KX := hide (show ∀ v0 v1 v2 v3 v4 v5 v6 v7 : Value, ((((((((w1.setCell ⟨w.heap.size, 0, none⟩ v0).setCell ⟨w.heap.size, 1, none⟩ v1).setCell ⟨w.heap.size, 2, none⟩ v2).setCell ⟨w.heap.size, 3, none⟩ v3).setCell ⟨w.heap.size, 4, none⟩ v4).setCell ⟨w.heap.size, 5, none⟩ v5).setCell ⟨w.heap.size, 6, none⟩ v6).setCell ⟨w.heap.size, 7, none⟩ v7).drew.cell? ⟨g, 5, none⟩ = some (.int .u8 x5) ∧ ((((((((w1.setCell ⟨w.heap.size, 0, none⟩ v0).setCell ⟨w.heap.size, 1, none⟩ v1).setCell ⟨w.heap.size, 2, none⟩ v2).setCell ⟨w.heap.size, 3, none⟩ v3).setCell ⟨w.heap.size, 4, none⟩ v4).setCell ⟨w.heap.size, 5, none⟩ v5).setCell ⟨w.heap.size, 6, none⟩ v6).setCell ⟨w.heap.size, 7, none⟩ v7).drew.cell? ⟨g, 6, none⟩ = some (.int .u8 x6) ∧ ((((((((w1.setCell ⟨w.heap.size, 0, none⟩ v0).setCell ⟨w.heap.size, 1, none⟩ v1).setCell ⟨w.heap.size, 2, none⟩ v2).setCell ⟨w.heap.size, 3, none⟩ v3).setCell ⟨w.heap.size, 4, none⟩ v4).setCell ⟨w.heap.size, 5, none⟩ v5).setCell ⟨w.heap.size, 6, none⟩ v6).setCell ⟨w.heap.size, 7, none⟩ v7).drew.cell? ⟨g, 7, none⟩ = some (.int .u8 x7) from fun v0 v1 v2 v3 v4 v5 v6 v7 => ⟨(cell_sets8d hgn).trans k5, (cell_sets8d hgn).trans k6, (cell_sets8d hgn).trans k7⟩)
  clear b1 q1 hw1 hN hb hr
  go_enter Tryz.func87, Tryz.ntmps87
  go_upto_region 1 with fail
  rw [← unhide HW]
  go_region_held3 (fun w' => w'.cell? ⟨g, 5, none⟩ = some (.int .u8 x5) ∧ w'.cell? ⟨g, 6, none⟩ = some (.int .u8 x6) ∧ w'.cell? ⟨g, 7, none⟩ = some (.int .u8 x7)) (first | with_reducible exact unhide KX _ _ _ _ _ _ _ _ | go_keep) (first | (go_at_call 88; (with_reducible refine same_world (unhide cN w1.drew ⟨rfl, rfl, rfl, Nat.le_refl _, fun _ _ => rfl⟩) ?_)) | (go_at_call 88; (with_reducible refine same_world (unhide cN w1 (Below.refl _ _)) ?_)))
  all_goals
    go_wp2_with fail
    refine bodyPost_ret (results_cell_row rfl _ _ w.heap.size _ _ _ _ rfl (row_sets8d (unhide HQ)) Tryz.underlying30 rfl (by kernel_rfl)) rfl ?_
    exact ⟨rfl, Below.drew (below_sets8 (unhide HB1) (Nat.le_refl _))⟩


end Go.Proofs.YtgldbainhncneaaGreatDoor

namespace Go.Proofs.YtgldbainhncneaaGreatDoor
open Go.RowKit
set_option linter.unusedVariables false
set_option linter.unusedSimpArgs false

/-- Twelve bytes as they lie in a block. -/
def f12 (l : List Int) : Array Value := (l.map (Value.int .u8)).toArray
theorem f12_size (l : List Int) (h : l.length = 12) : (f12 l).size = 12 := by simp [f12, h]
theorem f12_one (l : List Int) : (f12 l).all (·.oneCell') = true := by
  unfold f12
  simp [Value.oneCell']
theorem gb_below {w0 w w' : World} {g : Nat} (hb : Below w0.heap.size w0 w) (h : Gb g w w') (hg : w0.heap.size ≤ g) : Below w0.heap.size w0 w' :=
  hb.trans ⟨h.os, h.tape, h.output, h.size, fun k hk => h.block k (by have := hb.size; omega) (by omega)⟩
theorem rdF_len (b ls : List Int) (hl : ∀ z ∈ ls, 0 ≤ z ∧ z ≤ 12) : (rdF b ls).1.length = 12 := by
  unfold rdF
  split
  · rfl
  split
  · rfl
  split
  · rfl
  · rename_i h1 h2 h3
    have hm : (readFixed b 1).1 ∈ ls := by simpa using h2
    have := hl _ hm
    simp [zer12]
    omega
theorem byteInfo : (Tryz.prog.info? 5).map (·.size) = some 1 := by kernel_rfl

set_option maxHeartbeats 1000000 in
set_option maxRecDepth 100000 in
theorem readFields_any (bo : Option Addr) (bn bc : Nat) (b : List Int) (g m : Nat) (ls : List Int) (w : World) (hb : Bs w bo bn bc b) (hm : ls.length = m) (hm9 : m ≤ 100) (hl : ∀ z ∈ ls, 0 ≤ z ∧ z ≤ 12) (hc : ∀ j, j < ls.length → w.cell? ⟨g, 0 + j, none⟩ = some (.int .i64 (ls.getD j 0))) :
    Calls Tryz.prog 86 #[.slice bo bn bc, .slice (some ⟨g, 0, none⟩) m m] w fun e w' => e = .returned (.tuple #[.agg (f12 (rdF b ls).1), .int .i64 (rdF b ls).2.1, .int .i64 (rdF b ls).2.2]) ∧ Below w.heap.size w w' := by
  have b1 := below_alloc w (.cells (f12 zer12) 110)
  have q1 := heap_alloc_new w (.cells (f12 zer12) 110)
  obtain ⟨w1, hw1⟩ : ∃ z, z = w.alloc (.cells (f12 zer12) 110) := ⟨_, rfl⟩
  rw [← hw1] at b1 q1
  have hb1 := hb.later b1
  have cR := hide (readFixed_any bo bn bc b 1 w1 hb1)
  have hbl := hb.len
  have hble := hb.le
  have hbmx := hb.max
  have rv := readFixed_val hb.byt (k := 1) (by omega) (by omega)
  have cC := hide (fun (x : Int) => Tryz.slices_Contains_int g 0 m m ls x w1 (by omega) (by omega) (fun j hj => (b1.cell (p := ⟨g, 0 + j, none⟩) (World.block_lt_of_cell? w _ (hc j hj))).trans (hc j hj)))
  rw [show ls.take m = ls by rw [← hm, List.take_length]] at cC
  have hR : rdF b ls = (if (readFixed b 1).2 ≠ 0 then (zer12, 0, (readFixed b 1).2) else
  if ls.contains (readFixed b 1).1 = false then (zer12, 0, 5) else
  if (b.length : Int) < 1 + (readFixed b 1).1 then (zer12, 0, 4) else
  ((b.drop 1).take (readFixed b 1).1.toNat ++ zer12.drop (readFixed b 1).1.toNat, 1 + (readFixed b 1).1, 0)) := rfl
  rw [hR]
  have rb := fun hE => readFixed_bd (b := b) (k := 1) (x := (readFixed b 1).1) (er := (readFixed b 1).2) rfl (by omega) hE
  simp only [Int.natCast_one] at rv
  generalize (readFixed b 1).1 = X at *
  generalize (readFixed b 1).2 = E at *
  have hw64 : wrap64 X = X := by unfold wrap64; omega
  have SZ := hide (show (Tryz.prog.info? 110).map (·.size) = some (f12 zer12).size by kernel_rfl)
  have HW := hide (show w.alloc (.cells #[.int .u8 0, .int .u8 0, .int .u8 0, .int .u8 0, .int .u8 0, .int .u8 0, .int .u8 0, .int .u8 0, .int .u8 0, .int .u8 0, .int .u8 0, .int .u8 0] 110) = w1 from hw1.symm)
  have Q1 := hide q1
  have B1 := hide b1
  clear hw1 q1 b1 hR hb hc
  by_cases hE : E = 0
  · subst hE
    rw [if_neg (by decide)]
    have hb0 := rb rfl
    have cC1 := hide (unhide cC X)
    clear cC rb
    cases hq : ls.contains X
    · rw [hq] at cC1
      rw [if_pos rfl]
      clear hb1
      go_enter Tryz.func86, Tryz.ntmps86
      go_wp2_with (first | (go_at_call 85; rw [unhide HW]; refine same_world (unhide cR) ?_) | (go_at_call 113; refine same_world (unhide cC1) ?_) | (with_reducible show wpList Tryz.prog _ _ (Oper.mk _ (Op.load 110 _) _ _ _ none :: _) _ _; refine wpList_load_row rfl _ (.tmp 4) rfl w.heap.size rfl _ (f12 zer12) (0, 0) _ (unhide Q1) Tryz.underlying110 rfl (unhide SZ) ?_) | (with_reducible show wpList Tryz.prog _ _ (Oper.mk _ (Op.store 110 _ _) _ _ _ none :: _) _ _; refine wpList_stG rfl _ (.tmp 4) (.tmp 22) rfl w.heap.size (f12 zer12) (f12 zer12) rfl rfl (unhide Q1) (unhide SZ) rfl (f12_one _) ?_; intro w3 r3 g3 s3; have R3 := hide r3; have B3 := hide (gb_below (unhide B1) g3 (Nat.le_refl _)); clear r3 g3 s3))
      refine bodyPost_ret (results_row_tmp2 rfl _ _ w.heap.size _ rfl (run_loadVar_row _ w.heap.size _ _ _ _ _ (unhide R3) Tryz.underlying110 rfl (by kernel_rfl))) rfl ?_
      exact ⟨rfl, unhide B3⟩
    · rw [hq] at cC1
      rw [if_neg (by decide)]
      have hX := hl X (by simpa using hq)
      by_cases hs : (b.length : Int) < 1 + X
      · rw [if_pos hs]
        rw [hbl] at hs
        have hs2 : decide ((bn : Int) < 1 + X) = true := decide_eq_true hs
        clear hb1 hs
        go_enter Tryz.func86, Tryz.ntmps86
        go_wp2_with (first | (go_at_call 85; rw [unhide HW]; refine same_world (unhide cR) ?_) | (go_at_call 113; refine same_world (unhide cC1) ?_) | (with_reducible show wpList Tryz.prog _ _ (Oper.mk _ (Op.load 110 _) _ _ _ none :: _) _ _; refine wpList_load_row rfl _ (.tmp 4) rfl w.heap.size rfl _ (f12 zer12) (0, 0) _ (unhide Q1) Tryz.underlying110 rfl (unhide SZ) ?_) | (with_reducible show wpList Tryz.prog _ _ (Oper.mk _ (Op.store 110 _ _) _ _ _ none :: _) _ _; refine wpList_stG rfl _ (.tmp 4) (.tmp 30) rfl w.heap.size (f12 zer12) (f12 zer12) rfl rfl (unhide Q1) (unhide SZ) rfl (f12_one _) ?_; intro w3 r3 g3 s3; have R3 := hide r3; have B3 := hide (gb_below (unhide B1) g3 (Nat.le_refl _)); clear r3 g3 s3))
        refine bodyPost_ret (results_row_tmp2 rfl _ _ w.heap.size _ rfl (run_loadVar_row _ w.heap.size _ _ _ _ _ (unhide R3) Tryz.underlying110 rfl (by kernel_rfl))) rfl ?_
        exact ⟨rfl, unhide B3⟩
      · rw [if_neg hs]
        rw [hbl] at hs
        have hs2 : decide ((bn : Int) < 1 + X) = false := decide_eq_false hs
        obtain ⟨N, rfl⟩ := Int.eq_ofNat_of_zero_le hX.1
        obtain ⟨xo, xc, hcut, hxb⟩ := hb1.cut_lh (lo := 1) (hi := 1 + N) (by omega) (by omega) 1 (1 + (N : Int)) rfl (by omega)
        rw [Nat.add_sub_cancel_left] at hcut hxb
        have hxl := hxb.len
        have HN := hide (show (((b.drop 1).take N).map (Value.int .u8)).length = Nat.min N 12 by rw [List.length_map, hxl]; exact (Nat.min_eq_left (by omega)).symm)
        have HF := hide (show 0 + (((b.drop 1).take N).map (Value.int .u8)).length ≤ (zer12.map (Value.int .u8)).length by rw [List.length_map, hxl]; simp [zer12]; omega)
        have HP := hide (show 0 < (((b.drop 1).take N).map (Value.int .u8)).length → ∃ ad, xo = some ad ∧ ∀ j v, (((b.drop 1).take N).map (Value.int .u8))[j]? = some v → w1.drew.cell? (ad.add j) = some v from fun h0 => by
          rw [List.length_map, hxl] at h0
          cases hxo : xo with
          | none => have := hxb.nil hxo; have := hxb.le; omega
          | some ad => subst hxo; exact ⟨ad, rfl, hxb.news⟩)
        have HS := hide (show (splice (zer12.map (Value.int .u8)) 0 (((b.drop 1).take N).map (Value.int .u8))).toArray = f12 ((b.drop 1).take N ++ zer12.drop N) by
          unfold splice f12
          rw [List.length_map, hxl]
          simp)
        rw [Int.toNat_natCast]
        have hfl : ((b.drop 1).take N ++ zer12.drop N).length = 12 := by rw [List.length_append, hxl]; simp [zer12]; omega
        have SF := hide (show (Tryz.prog.info? 110).map (·.size) = some (f12 ((b.drop 1).take N ++ zer12.drop N)).size by rw [f12_size _ hfl]; kernel_rfl)
        have HO := hide (f12_one ((b.drop 1).take N ++ zer12.drop N))
        obtain ⟨FF, hFF⟩ : ∃ z, z = f12 ((b.drop 1).take N ++ zer12.drop N) := ⟨_, rfl⟩
        rw [← hFF] at HS SF HO ⊢
        clear hs hb1 hxb hfl hFF
        go_enter Tryz.func86, Tryz.ntmps86
        go_upto_region 9 with (first | (go_at_call 85; rw [unhide HW]; refine same_world (unhide cR) ?_) | (go_at_call 113; refine same_world (unhide cC1) ?_))
        go_region_law (refine step_copy_splice rfl (.tmp 31) (.tmp 34) 24 24 rfl 5 Tryz.underlying24 byteInfo (some ⟨w.heap.size, 0, none⟩) xo 12 12 N xc (by simp [Act.eval, Act.put]) (by simp [Act.eval, Act.put]) w.heap.size 0 (zer12.map (Value.int .u8)) 110 (drew_rw' (unhide Q1)) (((b.drop 1).take N).map (Value.int .u8)) (unhide HN) (fun h0 => ⟨rfl, unhide HP h0⟩) (unhide HF) (ints_oneCell _ _) w.heap.size w (unhide B1).drew (Nat.le_refl _) ?_; intro w4 hg4 hb4)
        all_goals
          have G4 := hide ((unhide hg4).trans (congrArg some (congrArg (fun z => Obj.cells z 110 (0, 0)) (unhide HS))))
          have B4 := hide hb4
          clear hg4 hb4
          go_wp2_with (first | (with_reducible show wpList Tryz.prog _ _ (Oper.mk _ (Op.load 110 _) _ _ _ none :: _) _ _; refine wpList_load_row rfl _ (.tmp 4) rfl w.heap.size rfl _ FF (0, 0) _ (unhide G4) Tryz.underlying110 rfl (unhide SF) ?_) | (with_reducible show wpList Tryz.prog _ _ (Oper.mk _ (Op.store 110 _ _) _ _ _ none :: _) _ _; refine wpList_stG rfl _ (.tmp 4) (.tmp 36) rfl w.heap.size FF FF rfl rfl (unhide G4) (unhide SF) rfl (unhide HO) ?_; intro w3 r3 g3 s3; have R3 := hide r3; have B3 := hide (gb_below (unhide B4) g3 (Nat.le_refl _)); clear r3 g3 s3))
          refine bodyPost_ret (results_row_tmp2 rfl _ _ w.heap.size _ rfl (run_loadVar_row _ w.heap.size _ _ _ _ _ (unhide R3) Tryz.underlying110 rfl (unhide SF))) rfl ?_
          exact ⟨rfl, unhide B3⟩
  · rw [if_pos hE]
    have hE2 : (E != 0) = true := by simpa using hE
    clear hE cC rb hb1
    go_enter Tryz.func86, Tryz.ntmps86
    go_wp2_with (first | (go_at_call 85; rw [unhide HW]; refine same_world (unhide cR) ?_) | (with_reducible show wpList Tryz.prog _ _ (Oper.mk _ (Op.load 110 _) _ _ _ none :: _) _ _; refine wpList_load_row rfl _ (.tmp 4) rfl w.heap.size rfl _ (f12 zer12) (0, 0) _ (unhide Q1) Tryz.underlying110 rfl (unhide SZ) ?_) | (with_reducible show wpList Tryz.prog _ _ (Oper.mk _ (Op.store 110 _ _) _ _ _ none :: _) _ _; refine wpList_stG rfl _ (.tmp 4) (.tmp 15) rfl w.heap.size (f12 zer12) (f12 zer12) rfl rfl (unhide Q1) (unhide SZ) rfl (f12_one _) ?_; intro w3 r3 g3 s3; have R3 := hide r3; have B3 := hide (gb_below (unhide B1) g3 (Nat.le_refl _)); clear r3 g3 s3))
    refine bodyPost_ret (results_row_tmp2 rfl _ _ w.heap.size _ rfl (run_loadVar_row _ w.heap.size _ _ _ _ _ (unhide R3) Tryz.underlying110 rfl (by kernel_rfl))) rfl ?_
    exact ⟨rfl, unhide B3⟩


end Go.Proofs.YtgldbainhncneaaGreatDoor

namespace Go.Proofs.YtgldbainhncneaaGreatDoor
open Go.RowKit
set_option linter.unusedVariables false
set_option linter.unusedSimpArgs false

theorem twelve {l : List Int} (h : l.length = 12) : ∃ x0 x1 x2 x3 x4 x5 x6 x7 x8 x9 x10 x11, l = [x0, x1, x2, x3, x4, x5, x6, x7, x8, x9, x10, x11] := by
  match l, h with
  | [x0, x1, x2, x3, x4, x5, x6, x7, x8, x9, x10, x11], _ => exact ⟨x0, x1, x2, x3, x4, x5, x6, x7, x8, x9, x10, x11, rfl⟩

theorem sets3 {w : World} {g : Nat} {T : TypeId} {v1 v2 v3 z0 z1 z2 z3 z4 z5 z6 z7 : Value} (h : w.heap[g]? = some (.cells #[z0, z1, z2, z3, z4, z5, z6, z7] T (0, 0))) : (((w.setCell ⟨g, 1, none⟩ v1).setCell ⟨g, 2, none⟩ v2).setCell ⟨g, 3, none⟩ v3).heap[g]? = some (.cells #[z0, v1, v2, v3, z4, z5, z6, z7] T (0, 0)) := by
  have h1 : (w.setCell ⟨g, 1, none⟩ v1).heap[g]? = some (.cells #[z0, v1, z2, z3, z4, z5, z6, z7] T (0, 0)) := heap_setCell_same _ g 1 _ _ _ h
  have h2 : ((w.setCell ⟨g, 1, none⟩ v1).setCell ⟨g, 2, none⟩ v2).heap[g]? = some (.cells #[z0, v1, v2, z3, z4, z5, z6, z7] T (0, 0)) := heap_setCell_same _ g 2 _ _ _ h1
  exact heap_setCell_same _ g 3 _ _ _ h2
theorem sets3o {w : World} {g k : Nat} {v1 v2 v3 : Value} {o : Obj} (hk : k ≠ g) (h : w.heap[k]? = some o) : (((w.setCell ⟨g, 1, none⟩ v1).setCell ⟨g, 2, none⟩ v2).setCell ⟨g, 3, none⟩ v3).heap[k]? = some o := by
  rw [heap_setCell_other _ _ _ _ hk, heap_setCell_other _ _ _ _ hk, heap_setCell_other _ _ _ _ hk]
  exact h
theorem sets3b {w0 w : World} {B g : Nat} {v1 v2 v3 : Value} (h : Below B w0 w) (hg : B ≤ g) : Below B w0 (((w.setCell ⟨g, 1, none⟩ v1).setCell ⟨g, 2, none⟩ v2).setCell ⟨g, 3, none⟩ v3) := ((h.setCell hg _).setCell hg _).setCell hg _

theorem rdF_byt {b ls : List Int} (hb : Byt b) : Byt (rdF b ls).1 := by
  unfold rdF
  have hz : Byt zer12 := fun z hz => by simp [zer12] at hz; omega
  split
  · exact hz
  split
  · exact hz
  split
  · exact hz
  · exact ((hb.drop 1).take _).app (hz.drop _)

set_option maxHeartbeats 2000000 in
set_option maxRecDepth 100000 in
theorem readDate_any (bo : Option Addr) (bn bc : Nat) (b : List Int) (w : World) (hb : Bs w bo bn bc b) :
    Calls Tryz.prog 51 #[.slice bo bn bc] w fun e w' => e = .returned (.tuple #[.agg (whC (rdD b).1), .int .i64 (rdD b).2.1, .int .i64 (rdD b).2.2]) ∧ Below w.heap.size w w' := by
  unfold rdD
  have hlen := rdF_len b dLs (by decide)
  have hby := rdF_byt (ls := dLs) hb.byt
  obtain ⟨w1, hw1⟩ : ∃ z, z = w.alloc (.cells #[.bool false, .int .i64 0, .int .i64 0, .int .i64 0, .int .i64 0, .int .i64 0, .int .i64 0, .int .i64 0] 30) := ⟨_, rfl⟩
  have b1 : Below w.heap.size w w1 := by rw [hw1]; exact below_alloc w _
  have q1 : w1.heap[w.heap.size]? = some (.cells #[.bool false, .int .i64 0, .int .i64 0, .int .i64 0, .int .i64 0, .int .i64 0, .int .i64 0, .int .i64 0] 30 (0, 0)) := by rw [hw1]; exact heap_alloc_new w _
  have s1 : w1.heap.size = w.heap.size + 1 := by rw [hw1]; simp
  obtain ⟨w2, hw2⟩ : ∃ z, z = w1.alloc (.cells #[.int .i64 0, .int .i64 4, .int .i64 7, .int .i64 11] 3) := ⟨_, rfl⟩
  have b2 : Below w1.heap.size w1 w2 := by rw [hw2]; exact below_alloc w1 _
  have r2 : w2.heap[w.heap.size + 1]? = some (.cells #[.int .i64 0, .int .i64 4, .int .i64 7, .int .i64 11] 3 (0, 0)) := by rw [hw2, ← s1]; exact heap_alloc_new w1 _
  have cF := hide (readFields_any bo bn bc b (w.heap.size + 1) 4 dLs w2 ((hb.later b1).later b2) rfl (by omega) (by decide) (fun j hj => by
    rw [cell_of_row w2 _ (0 + j) _ _ _ r2]
    match j, hj with
    | 0, _ => rfl
    | 1, _ => rfl
    | 2, _ => rfl
    | 3, _ => rfl))
  generalize (rdF b dLs).2.1 = NN at *
  generalize (rdF b dLs).2.2 = EE at *
  generalize (rdF b dLs).1 = F at *
  obtain ⟨x0, x1, x2, x3, x4, x5, x6, x7, x8, x9, x10, x11, rfl⟩ := twelve hlen
  have hbx : ∀ z ∈ [x0, x1, x2, x3, x4, x5, x6, x7, x8, x9, x10, x11], 0 ≤ z ∧ z ≤ 255 := hby
  have e0 : datO [x0, x1, x2, x3, x4, x5, x6, x7, x8, x9, x10, x11] = ⟨false, val [x0, x1] 2, x2, x3, x4, x5, x6, val [x7, x8, x9, x10] 4⟩ := by
    unfold datO clkO
    simp only [List.drop_succ_cons, List.drop_zero, List.getD_cons_zero, List.getD_cons_succ]
    rw [show ([x0, x1, x2, x3, x4, x5, x6, x7, x8, x9, x10, x11] : List Int) = [x0, x1] ++ [x2, x3, x4, x5, x6, x7, x8, x9, x10, x11] from rfl, val_append _ _ 2 (by simp), show ([x7, x8, x9, x10, x11] : List Int) = [x7, x8, x9, x10] ++ [x11] from rfl, val_append _ _ 4 (by simp)]
  rw [e0]
  unfold whC
  simp only
  rw [show f12 [x0, x1, x2, x3, x4, x5, x6, x7, x8, x9, x10, x11] = #[.int .u8 x0, .int .u8 x1, .int .u8 x2, .int .u8 x3, .int .u8 x4, .int .u8 x5, .int .u8 x6, .int .u8 x7, .int .u8 x8, .int .u8 x9, .int .u8 x10, .int .u8 x11] from rfl] at cF
  have cC := hide (fun (wx : World) (gx : Nat) hr => clockOf_4 gx x0 x1 x2 x3 x4 x5 x6 x7 x8 x9 x10 x11 wx hbx hr)
  have cN := hide (fun (wx : World) (gx : Nat) (hr : wx.heap[gx]? = some (.cells #[.int .u8 x0, .int .u8 x1, .int .u8 x2, .int .u8 x3, .int .u8 x4, .int .u8 x5, .int .u8 x6, .int .u8 x7, .int .u8 x8, .int .u8 x9, .int .u8 x10, .int .u8 x11] 110 (0, 0))) => number_any (some ⟨gx, 0, none⟩) 2 12 [x0, x1] wx ⟨rfl, by omega, by omega, fun z => by (cases z), fun z hz => hbx z (by simp at hz ⊢; rcases hz with h | h <;> simp [h]), .inr ⟨gx, 0, rfl, fun i hi => by
      rw [cell_of_row wx gx (0 + i) _ _ _ hr]
      match i, hi with
      | 0, _ => rfl
      | 1, _ => rfl⟩⟩ (by omega) (by omega))
  have vb : (0 ≤ val [x0, x1] 2 ∧ val [x0, x1] 2 < 2 ^ (8 * 2)) := val_bounds (fun z hz => hbx z (by simp at hz ⊢; rcases hz with h | h <;> simp [h])) 2
  generalize val [x0, x1] 2 = VY at *
  generalize val [x7, x8, x9, x10] 4 = VM at *
  have u2 := hbx x2 (by simp)
  have u3 := hbx x3 (by simp)
  have i2 : IntKind.i64.wrap x2 = x2 := by rw [IntKind.wrap_i64]; omega
  have i3 : IntKind.i64.wrap x3 = x3 := by rw [IntKind.wrap_i64]; omega
  have SZ := hide (show (Tryz.prog.info? 110).map (·.size) = some (#[.int .u8 x0, .int .u8 x1, .int .u8 x2, .int .u8 x3, .int .u8 x4, .int .u8 x5, .int .u8 x6, .int .u8 x7, .int .u8 x8, .int .u8 x9, .int .u8 x10, .int .u8 x11] : Array Value).size by kernel_rfl)
  have SW := hide (show (Tryz.prog.info? 30).map (·.size) = some (#[.bool false, .int .i64 VY, .int .i64 x2, .int .i64 x3, .int .i64 x4, .int .i64 x5, .int .i64 x6, .int .i64 VM] : Array Value).size by kernel_rfl)
  have HO := hide (show (#[.bool false, .int .i64 VY, .int .i64 x2, .int .i64 x3, .int .i64 x4, .int .i64 x5, .int .i64 x6, .int .i64 VM] : Array Value).all (·.oneCell') = true by simp [Value.oneCell'])
  have HW1 := hide (show w.alloc (.cells #[.bool false, .int .i64 0, .int .i64 0, .int .i64 0, .int .i64 0, .int .i64 0, .int .i64 0, .int .i64 0] 30) = w1 from hw1.symm)
  have HW2 := hide (show w1.alloc (.cells #[.int .i64 0, .int .i64 4, .int .i64 7, .int .i64 11] 3) = w2 from hw2.symm)
  have B2 := hide (vbup b1 b2)
  have Q2 := hide (vrow_later q1 b2)
  clear hw1 hw2 b1 b2 q1 r2 s1 hb hby hbx hlen e0
  go_enter Tryz.func51, Tryz.ntmps51
  go_upto_region 3 with (first
    | (go_at_call 86; rw [unhide HW1, unhide HW2]; refine (unhide cF).mono ?_; rintro e w3 ⟨rfl, b3⟩; have B3 := hide (vbup (unhide B2) b3); have Q3 := hide (vrow_later (unhide Q2) b3); clear b3
       have b4 := below_alloc w3 (.cells #[.int .u8 x0, .int .u8 x1, .int .u8 x2, .int .u8 x3, .int .u8 x4, .int .u8 x5, .int .u8 x6, .int .u8 x7, .int .u8 x8, .int .u8 x9, .int .u8 x10, .int .u8 x11] 110); have r4 := heap_alloc_new w3 (.cells #[.int .u8 x0, .int .u8 x1, .int .u8 x2, .int .u8 x3, .int .u8 x4, .int .u8 x5, .int .u8 x6, .int .u8 x7, .int .u8 x8, .int .u8 x9, .int .u8 x10, .int .u8 x11] 110)
       obtain ⟨w4, hw4⟩ : ∃ z, z = w3.alloc (.cells #[.int .u8 x0, .int .u8 x1, .int .u8 x2, .int .u8 x3, .int .u8 x4, .int .u8 x5, .int .u8 x6, .int .u8 x7, .int .u8 x8, .int .u8 x9, .int .u8 x10, .int .u8 x11] 110) := ⟨_, rfl⟩
       rw [← hw4] at b4 r4
       have B4 := hide (vbup (unhide B3) b4); have Q4 := hide (vrow_later (unhide Q3) b4); have R4 := hide r4; have HW4 := hide hw4.symm
       clear b4 r4 hw4)
    | (go_at_call 87; rw [unhide HW4]; refine (unhide cC w4 w3.heap.size (unhide R4)).mono ?_; rintro e w5 ⟨rfl, b5⟩; have B5 := hide (vbup (unhide B4) b5); have Q5 := hide (vrow_later (unhide Q4) b5); have R5 := hide (vrow_later (unhide R4) b5); clear b5))
  have b6 := below_alloc w5 (.cells #[.bool false, .int .i64 0, .int .i64 0, .int .i64 0, .int .i64 x4, .int .i64 x5, .int .i64 x6, .int .i64 VM] 30)
  have r6 := heap_alloc_new w5 (.cells #[.bool false, .int .i64 0, .int .i64 0, .int .i64 0, .int .i64 x4, .int .i64 x5, .int .i64 x6, .int .i64 VM] 30)
  have hl5 := (Array.getElem?_eq_some_iff.1 (unhide R5)).1
  obtain ⟨w6, hw6⟩ : ∃ z, z = w5.alloc (.cells #[.bool false, .int .i64 0, .int .i64 0, .int .i64 0, .int .i64 x4, .int .i64 x5, .int .i64 x6, .int .i64 VM] 30) := ⟨_, rfl⟩
  rw [← hw6] at b6 r6
  have B6 := hide (vbup (unhide B5) b6)
  have Q6 := hide (vrow_later (unhide Q5) b6)
  have R6 := vrow_later (unhide R5) b6
  have K6 := hide r6
  have k2 := vrow_cell R6 (j := 2) (v := .int .u8 x2) rfl
  have k3 := vrow_cell R6 (j := 3) (v := .int .u8 x3) rfl
  have m1 := vrow_cell r6 (j := 1) (v := .int .i64 0) rfl
  have m2 := vrow_cell r6 (j := 2) (v := .int .i64 0) rfl
  have m3 := vrow_cell r6 (j := 3) (v := .int .i64 0) rfl
  have f1 := frozen_of_row w6 _ 1 _ _ r6
  have f2 := frozen_of_row w6 _ 2 _ _ r6
  have f3 := frozen_of_row w6 _ 3 _ _ r6
  have cN6 := hide (unhide cN w6.drew w3.heap.size R6)
  rw [← hw6]
  have hb5 := (unhide B5).size
  have hq5 : w.heap.size < w3.heap.size := (Array.getElem?_eq_some_iff.1 (unhide Q3)).1
  clear hb5
  generalize w3.heap.size = g3 at *
  generalize w5.heap.size = g5 at *
  have n1 : g3 ≠ g5 := by omega
  have n2 : g5 ≠ g3 := by omega
  have n3 : w.heap.size ≠ g5 := by omega
  have G5 := hide (Nat.lt_trans hq5 hl5)
  clear hw6 b6 r6 R6 hl5 hq5
  go_cut [] (fun wx => wx.heap[g5]? = some (.cells #[.bool false, .int .i64 VY, .int .i64 x2, .int .i64 x3, .int .i64 x4, .int .i64 x5, .int .i64 x6, .int .i64 VM] 30 (0, 0)) ∧ wx.heap[w.heap.size]? = some (.cells #[.bool false, .int .i64 0, .int .i64 0, .int .i64 0, .int .i64 0, .int .i64 0, .int .i64 0, .int .i64 0] 30 (0, 0)) ∧ Below w.heap.size w wx)
  case first =>
    go_region_with (go_at_call 88; (with_reducible refine same_world (unhide cN6) ?_))
    all_goals
      go_wp2_with fail
      go_meet
      exact ⟨drew_rw' (sets3 (unhide K6)), drew_rw' (sets3o n3 (unhide Q6)), Below.drew (sets3b (unhide B6) (Nat.le_of_lt (unhide G5)))⟩
  case rest =>
    obtain ⟨ra, rb, rc⟩ := hcut
    have RA := hide ra
    have RB := hide rb
    have RC := hide rc
    clear ra rb rc k2 k3 m1 m2 m3 f1 f2 f3
    go_wp2_with (first
      | (with_reducible show wpList Tryz.prog _ _ (Oper.mk _ (Op.load 30 _) _ _ _ none :: _) _ _; refine wpList_load_row rfl _ (.tmp 8) rfl g5 rfl _ #[.bool false, .int .i64 VY, .int .i64 x2, .int .i64 x3, .int .i64 x4, .int .i64 x5, .int .i64 x6, .int .i64 VM] (0, 0) _ (unhide RA) Tryz.underlying30 rfl (unhide SW) ?_)
      | (with_reducible show wpList Tryz.prog _ _ (Oper.mk _ (Op.store 30 _ _) _ _ _ none :: _) _ _; refine wpList_stG rfl _ (.tmp 2) (.tmp 29) rfl w.heap.size #[.bool false, .int .i64 VY, .int .i64 x2, .int .i64 x3, .int .i64 x4, .int .i64 x5, .int .i64 x6, .int .i64 VM] #[.bool false, .int .i64 0, .int .i64 0, .int .i64 0, .int .i64 0, .int .i64 0, .int .i64 0, .int .i64 0] rfl rfl (unhide RB) (unhide SW) rfl (unhide HO) ?_; intro w8 r8 g8 s8; have R8 := hide r8; have B8 := hide (gb_below (unhide RC) g8 (Nat.le_refl _)); clear r8 g8 s8))
    refine bodyPost_ret (results_row_tmp2 rfl _ _ w.heap.size _ rfl (run_loadVar_row _ w.heap.size _ _ _ _ _ (unhide R8) Tryz.underlying30 rfl (unhide SW))) rfl ?_
    exact ⟨rfl, unhide B8⟩


end Go.Proofs.YtgldbainhncneaaGreatDoor

namespace Go.Proofs.YtgldbainhncneaaGreatDoor
open Go.RowKit
set_option linter.unusedVariables false
set_option linter.unusedSimpArgs false

theorem sets2 {w : World} {g : Nat} {T : TypeId} {v1 v2 z0 z1 z2 z3 z4 z5 z6 z7 : Value} (h : w.heap[g]? = some (.cells #[z0, z1, z2, z3, z4, z5, z6, z7] T (0, 0))) : ((w.setCell ⟨g, 0, none⟩ v1).setCell ⟨g, 3, none⟩ v2).heap[g]? = some (.cells #[v1, z1, z2, v2, z4, z5, z6, z7] T (0, 0)) := by
  have h1 : (w.setCell ⟨g, 0, none⟩ v1).heap[g]? = some (.cells #[v1, z1, z2, z3, z4, z5, z6, z7] T (0, 0)) := heap_setCell_same _ g 0 _ _ _ h
  exact heap_setCell_same _ g 3 _ _ _ h1
theorem sets2o {w : World} {g k : Nat} {v1 v2 : Value} {o : Obj} (hk : k ≠ g) (h : w.heap[k]? = some o) : ((w.setCell ⟨g, 0, none⟩ v1).setCell ⟨g, 3, none⟩ v2).heap[k]? = some o := by
  rw [heap_setCell_other _ _ _ _ hk, heap_setCell_other _ _ _ _ hk]
  exact h
theorem sets2b {w0 w : World} {B g : Nat} {v1 v2 : Value} (h : Below B w0 w) (hg : B ≤ g) : Below B w0 ((w.setCell ⟨g, 0, none⟩ v1).setCell ⟨g, 3, none⟩ v2) := (h.setCell hg _).setCell hg _

set_option maxHeartbeats 2000000 in
set_option maxRecDepth 100000 in
theorem readTime_any (bo : Option Addr) (bn bc : Nat) (b : List Int) (w : World) (hb : Bs w bo bn bc b) :
    Calls Tryz.prog 52 #[.slice bo bn bc] w fun e w' => e = .returned (.tuple #[.agg (whC (rdT b).1), .int .i64 (rdT b).2.1, .int .i64 (rdT b).2.2]) ∧ Below w.heap.size w w' := by
  unfold rdT
  have hlen := rdF_len b tLs (by decide)
  have hby := rdF_byt (ls := tLs) hb.byt
  obtain ⟨w1, hw1⟩ : ∃ z, z = w.alloc (.cells #[.bool false, .int .i64 0, .int .i64 0, .int .i64 0, .int .i64 0, .int .i64 0, .int .i64 0, .int .i64 0] 30) := ⟨_, rfl⟩
  have b1 : Below w.heap.size w w1 := by rw [hw1]; exact below_alloc w _
  have q1 : w1.heap[w.heap.size]? = some (.cells #[.bool false, .int .i64 0, .int .i64 0, .int .i64 0, .int .i64 0, .int .i64 0, .int .i64 0, .int .i64 0] 30 (0, 0)) := by rw [hw1]; exact heap_alloc_new w _
  have s1 : w1.heap.size = w.heap.size + 1 := by rw [hw1]; simp
  obtain ⟨w2, hw2⟩ : ∃ z, z = w1.alloc (.cells #[.int .i64 0, .int .i64 8, .int .i64 12] 3) := ⟨_, rfl⟩
  have b2 : Below w1.heap.size w1 w2 := by rw [hw2]; exact below_alloc w1 _
  have r2 : w2.heap[w.heap.size + 1]? = some (.cells #[.int .i64 0, .int .i64 8, .int .i64 12] 3 (0, 0)) := by rw [hw2, ← s1]; exact heap_alloc_new w1 _
  have cF := hide (readFields_any bo bn bc b (w.heap.size + 1) 3 tLs w2 ((hb.later b1).later b2) rfl (by omega) (by decide) (fun j hj => by
    rw [cell_of_row w2 _ (0 + j) _ _ _ r2]
    match j, hj with
    | 0, _ => rfl
    | 1, _ => rfl
    | 2, _ => rfl))
  generalize (rdF b tLs).2.1 = NN at *
  generalize (rdF b tLs).2.2 = EE at *
  generalize (rdF b tLs).1 = F at *
  obtain ⟨x0, x1, x2, x3, x4, x5, x6, x7, x8, x9, x10, x11, rfl⟩ := twelve hlen
  have hbx : ∀ z ∈ [x0, x1, x2, x3, x4, x5, x6, x7, x8, x9, x10, x11], 0 ≤ z ∧ z ≤ 255 := hby
  have e0 : timO [x0, x1, x2, x3, x4, x5, x6, x7, x8, x9, x10, x11] = ⟨x0 == 1, 0, 0, val [x1, x2, x3, x4] 4, x5, x6, x7, val [x8, x9, x10, x11] 4⟩ := by
    unfold timO clkO
    simp only [List.drop_succ_cons, List.drop_zero, List.getD_cons_zero, List.getD_cons_succ]
    rw [show ([x1, x2, x3, x4, x5, x6, x7, x8, x9, x10, x11] : List Int) = [x1, x2, x3, x4] ++ [x5, x6, x7, x8, x9, x10, x11] from rfl, val_append _ _ 4 (by simp)]
  rw [e0]
  rw [show ([x0, x1, x2, x3, x4, x5, x6, x7, x8, x9, x10, x11] : List Int).getD 0 0 = x0 from rfl]
  rw [show f12 [x0, x1, x2, x3, x4, x5, x6, x7, x8, x9, x10, x11] = #[.int .u8 x0, .int .u8 x1, .int .u8 x2, .int .u8 x3, .int .u8 x4, .int .u8 x5, .int .u8 x6, .int .u8 x7, .int .u8 x8, .int .u8 x9, .int .u8 x10, .int .u8 x11] from rfl] at cF
  have cC := hide (fun (wx : World) (gx : Nat) hr => clockOf_5 gx x0 x1 x2 x3 x4 x5 x6 x7 x8 x9 x10 x11 wx hbx hr)
  have cN := hide (fun (wx : World) (gx : Nat) (hr : wx.heap[gx]? = some (.cells #[.int .u8 x0, .int .u8 x1, .int .u8 x2, .int .u8 x3, .int .u8 x4, .int .u8 x5, .int .u8 x6, .int .u8 x7, .int .u8 x8, .int .u8 x9, .int .u8 x10, .int .u8 x11] 110 (0, 0))) => number_any (some ⟨gx, 1, none⟩) 4 11 [x1, x2, x3, x4] wx ⟨rfl, by omega, by omega, fun z => by (cases z), fun z hz => hbx z (by simp at hz ⊢; rcases hz with h | h | h | h <;> simp [h]), .inr ⟨gx, 1, rfl, fun i hi => by
      rw [cell_of_row wx gx (1 + i) _ _ _ hr]
      match i, hi with
      | 0, _ => rfl
      | 1, _ => rfl
      | 2, _ => rfl
      | 3, _ => rfl⟩⟩ (by omega) (by omega))
  generalize val [x1, x2, x3, x4] 4 = VY at *
  generalize val [x8, x9, x10, x11] 4 = VM at *
  have u0 := hbx x0 (by simp)
  have SZ := hide (show (Tryz.prog.info? 110).map (·.size) = some (#[.int .u8 x0, .int .u8 x1, .int .u8 x2, .int .u8 x3, .int .u8 x4, .int .u8 x5, .int .u8 x6, .int .u8 x7, .int .u8 x8, .int .u8 x9, .int .u8 x10, .int .u8 x11] : Array Value).size by kernel_rfl)
  have SW := hide (show (Tryz.prog.info? 30).map (·.size) = some (#[.bool false, .int .i64 0, .int .i64 0, .int .i64 0, .int .i64 0, .int .i64 0, .int .i64 0, .int .i64 0] : Array Value).size by kernel_rfl)
  have HO := hide (show (#[.bool false, .int .i64 0, .int .i64 0, .int .i64 0, .int .i64 0, .int .i64 0, .int .i64 0, .int .i64 0] : Array Value).all (·.oneCell') = true by simp [Value.oneCell'])
  have HW1 := hide (show w.alloc (.cells #[.bool false, .int .i64 0, .int .i64 0, .int .i64 0, .int .i64 0, .int .i64 0, .int .i64 0, .int .i64 0] 30) = w1 from hw1.symm)
  have HW2 := hide (show w1.alloc (.cells #[.int .i64 0, .int .i64 8, .int .i64 12] 3) = w2 from hw2.symm)
  have B2 := hide (vbup b1 b2)
  have Q2 := hide (vrow_later q1 b2)
  clear hw1 hw2 b1 b2 q1 r2 s1 hb hby hbx hlen e0
  by_cases hx : 1 < x0
  · rw [if_pos hx]
    unfold whC wh0
    simp only
    have hx2 : decide (1 < x0) = true := decide_eq_true hx
    clear hx
    go_enter Tryz.func52, Tryz.ntmps52
    go_wp2_with (first
    | (go_at_call 86; rw [unhide HW1, unhide HW2]; refine (unhide cF).mono ?_; rintro e w3 ⟨rfl, b3⟩; have B3 := hide (vbup (unhide B2) b3); have Q3 := hide (vrow_later (unhide Q2) b3); clear b3
       have b4 := below_alloc w3 (.cells #[.int .u8 x0, .int .u8 x1, .int .u8 x2, .int .u8 x3, .int .u8 x4, .int .u8 x5, .int .u8 x6, .int .u8 x7, .int .u8 x8, .int .u8 x9, .int .u8 x10, .int .u8 x11] 110); have r4 := heap_alloc_new w3 (.cells #[.int .u8 x0, .int .u8 x1, .int .u8 x2, .int .u8 x3, .int .u8 x4, .int .u8 x5, .int .u8 x6, .int .u8 x7, .int .u8 x8, .int .u8 x9, .int .u8 x10, .int .u8 x11] 110)
       obtain ⟨w4, hw4⟩ : ∃ z, z = w3.alloc (.cells #[.int .u8 x0, .int .u8 x1, .int .u8 x2, .int .u8 x3, .int .u8 x4, .int .u8 x5, .int .u8 x6, .int .u8 x7, .int .u8 x8, .int .u8 x9, .int .u8 x10, .int .u8 x11] 110) := ⟨_, rfl⟩
       rw [← hw4] at b4 r4
       have B4 := hide (vbup (unhide B3) b4); have Q4 := hide (vrow_later (unhide Q3) b4); have R4 := hide r4; have HW4 := hide hw4.symm
       have h0 := vrow_cell r4 (j := 0) (v := .int .u8 x0) rfl; rw [hw4] at h0
       clear b4 r4 hw4)
    | (with_reducible show wpList Tryz.prog _ _ (Oper.mk _ (Op.store 30 _ _) _ _ _ none :: _) _ _; rw [unhide HW4]; refine wpList_stG rfl _ (.tmp 2) (.tmp 19) rfl w.heap.size #[.bool false, .int .i64 0, .int .i64 0, .int .i64 0, .int .i64 0, .int .i64 0, .int .i64 0, .int .i64 0] #[.bool false, .int .i64 0, .int .i64 0, .int .i64 0, .int .i64 0, .int .i64 0, .int .i64 0, .int .i64 0] rfl rfl (unhide Q4) (unhide SW) rfl (unhide HO) ?_; intro w8 r8 g8 s8; have R8 := hide r8; have B8 := hide (gb_below (unhide B4) g8 (Nat.le_refl _)); clear r8 g8 s8))
    refine bodyPost_ret (results_row_tmp2 rfl _ _ w.heap.size _ rfl (run_loadVar_row _ w.heap.size _ _ _ _ _ (unhide R8) Tryz.underlying30 rfl (unhide SW))) rfl ?_
    exact ⟨rfl, unhide B8⟩
  · rw [if_neg hx]
    unfold whC
    simp only
    have hx2 : decide (1 < x0) = false := decide_eq_false hx
    clear hx
    obtain ⟨NG, hNG⟩ : ∃ z, (x0 == 1) = z := ⟨_, rfl⟩
    rw [hNG]
    have SV := hide (show (Tryz.prog.info? 30).map (·.size) = some (#[.bool NG, .int .i64 0, .int .i64 0, .int .i64 VY, .int .i64 x5, .int .i64 x6, .int .i64 x7, .int .i64 VM] : Array Value).size by kernel_rfl)
    have HP := hide (show (#[.bool NG, .int .i64 0, .int .i64 0, .int .i64 VY, .int .i64 x5, .int .i64 x6, .int .i64 x7, .int .i64 VM] : Array Value).all (·.oneCell') = true by simp [Value.oneCell'])
    go_enter Tryz.func52, Tryz.ntmps52
    go_upto_region 5 with (first
    | (go_at_call 86; rw [unhide HW1, unhide HW2]; refine (unhide cF).mono ?_; rintro e w3 ⟨rfl, b3⟩; have B3 := hide (vbup (unhide B2) b3); have Q3 := hide (vrow_later (unhide Q2) b3); clear b3
       have b4 := below_alloc w3 (.cells #[.int .u8 x0, .int .u8 x1, .int .u8 x2, .int .u8 x3, .int .u8 x4, .int .u8 x5, .int .u8 x6, .int .u8 x7, .int .u8 x8, .int .u8 x9, .int .u8 x10, .int .u8 x11] 110); have r4 := heap_alloc_new w3 (.cells #[.int .u8 x0, .int .u8 x1, .int .u8 x2, .int .u8 x3, .int .u8 x4, .int .u8 x5, .int .u8 x6, .int .u8 x7, .int .u8 x8, .int .u8 x9, .int .u8 x10, .int .u8 x11] 110)
       obtain ⟨w4, hw4⟩ : ∃ z, z = w3.alloc (.cells #[.int .u8 x0, .int .u8 x1, .int .u8 x2, .int .u8 x3, .int .u8 x4, .int .u8 x5, .int .u8 x6, .int .u8 x7, .int .u8 x8, .int .u8 x9, .int .u8 x10, .int .u8 x11] 110) := ⟨_, rfl⟩
       rw [← hw4] at b4 r4
       have B4 := hide (vbup (unhide B3) b4); have Q4 := hide (vrow_later (unhide Q3) b4); have R4 := hide r4; have HW4 := hide hw4.symm
       have h0 := vrow_cell r4 (j := 0) (v := .int .u8 x0) rfl; rw [hw4] at h0
       clear b4 r4 hw4)
    | (go_at_call 87; rw [unhide HW4]; refine (unhide cC w4 w3.heap.size (unhide R4)).mono ?_; rintro e w5 ⟨rfl, b5⟩; have B5 := hide (vbup (unhide B4) b5); have Q5 := hide (vrow_later (unhide Q4) b5); have R5 := hide (vrow_later (unhide R4) b5); clear b5))
    have b6 := below_alloc w5 (.cells #[.bool false, .int .i64 0, .int .i64 0, .int .i64 0, .int .i64 x5, .int .i64 x6, .int .i64 x7, .int .i64 VM] 30)
    have r6 := heap_alloc_new w5 (.cells #[.bool false, .int .i64 0, .int .i64 0, .int .i64 0, .int .i64 x5, .int .i64 x6, .int .i64 x7, .int .i64 VM] 30)
    have hl5 := (Array.getElem?_eq_some_iff.1 (unhide R5)).1
    obtain ⟨w6, hw6⟩ : ∃ z, z = w5.alloc (.cells #[.bool false, .int .i64 0, .int .i64 0, .int .i64 0, .int .i64 x5, .int .i64 x6, .int .i64 x7, .int .i64 VM] 30) := ⟨_, rfl⟩
    rw [← hw6] at b6 r6
    have B6 := hide (vbup (unhide B5) b6)
    have Q6 := hide (vrow_later (unhide Q5) b6)
    have R6 := vrow_later (unhide R5) b6
    have K6 := hide r6
    have k0 := vrow_cell R6 (j := 0) (v := .int .u8 x0) rfl
    have m1 := vrow_cell r6 (j := 0) (v := .bool false) rfl
    have m3 := vrow_cell r6 (j := 3) (v := .int .i64 0) rfl
    have f1 := frozen_of_row w6 _ 0 _ _ r6
    have f3 := frozen_of_row w6 _ 3 _ _ r6
    have cN6 := hide (unhide cN w6.drew w3.heap.size R6)
    rw [← hw6]
    have hq5 : w.heap.size < w3.heap.size := (Array.getElem?_eq_some_iff.1 (unhide Q3)).1
    clear h0
    generalize w3.heap.size = g3 at *
    generalize w5.heap.size = g5 at *
    have n1 : g3 ≠ g5 := by omega
    have n2 : g5 ≠ g3 := by omega
    have n3 : w.heap.size ≠ g5 := by omega
    have G5 := hide (Nat.lt_trans hq5 hl5)
    clear hw6 b6 r6 R6 hl5 hq5
    go_cut [] (fun wx => wx.heap[g5]? = some (.cells #[.bool NG, .int .i64 0, .int .i64 0, .int .i64 VY, .int .i64 x5, .int .i64 x6, .int .i64 x7, .int .i64 VM] 30 (0, 0)) ∧ wx.heap[w.heap.size]? = some (.cells #[.bool false, .int .i64 0, .int .i64 0, .int .i64 0, .int .i64 0, .int .i64 0, .int .i64 0, .int .i64 0] 30 (0, 0)) ∧ Below w.heap.size w wx)
    case first =>
      go_region_with (go_at_call 88; (with_reducible refine same_world (unhide cN6) ?_))
      all_goals
        go_wp2_with fail
        go_meet
        exact ⟨drew_rw' (sets2 (unhide K6)), drew_rw' (sets2o n3 (unhide Q6)), Below.drew (sets2b (unhide B6) (Nat.le_of_lt (unhide G5)))⟩
    case rest =>
      obtain ⟨ra, rb, rc⟩ := hcut
      have RA := hide ra
      have RB := hide rb
      have RC := hide rc
      clear ra rb rc k0 m1 m3 f1 f3
      go_wp2_with (first
        | (with_reducible show wpList Tryz.prog _ _ (Oper.mk _ (Op.load 30 _) _ _ _ none :: _) _ _; refine wpList_load_row rfl _ (.tmp 8) rfl g5 rfl _ #[.bool NG, .int .i64 0, .int .i64 0, .int .i64 VY, .int .i64 x5, .int .i64 x6, .int .i64 x7, .int .i64 VM] (0, 0) _ (unhide RA) Tryz.underlying30 rfl (unhide SV) ?_)
        | (with_reducible show wpList Tryz.prog _ _ (Oper.mk _ (Op.store 30 _ _) _ _ _ none :: _) _ _; refine wpList_stG rfl _ (.tmp 2) (.tmp 29) rfl w.heap.size #[.bool NG, .int .i64 0, .int .i64 0, .int .i64 VY, .int .i64 x5, .int .i64 x6, .int .i64 x7, .int .i64 VM] #[.bool false, .int .i64 0, .int .i64 0, .int .i64 0, .int .i64 0, .int .i64 0, .int .i64 0, .int .i64 0] rfl rfl (unhide RB) (unhide SV) rfl (unhide HP) ?_; intro w8 r8 g8 s8; have R8 := hide r8; have B8 := hide (gb_below (unhide RC) g8 (Nat.le_refl _)); clear r8 g8 s8))
      refine bodyPost_ret (results_row_tmp2 rfl _ _ w.heap.size _ rfl (run_loadVar_row _ w.heap.size _ _ _ _ _ (unhide R8) Tryz.underlying30 rfl (unhide SV))) rfl ?_
      exact ⟨rfl, unhide B8⟩


end Go.Proofs.YtgldbainhncneaaGreatDoor
