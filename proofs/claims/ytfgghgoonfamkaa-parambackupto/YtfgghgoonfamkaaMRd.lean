/-
  What number and clockOf of package value return. They write nothing that was there. Conditions: the bytes can be read.
  What readFields of package value returns: twelve bytes, how many were read, an error. It writes nothing that was there. Conditions: the slices can be read; no first byte that may be is greater than 12.
-/
import Derived.Test.YtfgghgoonfamkaaVaPv
import Derived.Test.YtfgghgoonfamkaaMA
import Derived.Deep.DeepCutAuto
import Derived.Deep.RegionHeld3
import Derived.Deep.RegionWith
import Derived.BigQuiet
import Derived.Test.YtfgghgoonfamkaaMPl
import Derived.Test.YtfgghgoonfamkaaClRow
import Derived.Test.YtfgghgoonfamkaaShl
import Derived.Deep.WholeRow
import Derived.Laws.CopyOwn
import Derived.Deep.RegionLaw
namespace Go.Proofs.Ytfgghgoonfamkaa
open Go.RowKit
set_option linter.unusedVariables false
set_option linter.unusedSimpArgs false

/-- A struct's block and two more. -/
theorem results_row_tmp2 {P : Program} {fn : Func} {p u v : Tmp} {ty : TypeId} (h : fn.results = #[.cell p ty, .tmp u, .tmp v]) (tmps : Array Value) (w : World) (g : Nat) (cs : Array Value) (hp : tmps.getD p undef = .pointer (some ⟨g, 0, none⟩)) (hl : (loadVar ty ⟨g, 0, none⟩).run P w = .ok (.agg cs) w) :
    (results fn tmps).run P w = .ok (.tuple #[.agg cs, tmps.getD u undef, tmps.getD v undef]) w := by
  have hp' : tmps[p]?.getD undef = .pointer (some ⟨g, 0, none⟩) := by simpa using hp
  simp [results, h, Sem.run_bind, Result.andThen, hp', asAddr, hl]

theorem row_sets8 {w : World} {g : Nat} {T : TypeId} {v0 v1 v2 v3 v4 v5 v6 v7 z0 z1 z2 z3 z4 z5 z6 z7 : Value} (h : w.heap[g]? = some (.cells #[z0, z1, z2, z3, z4, z5, z6, z7] T (0, 0))) : ((((((((w.setCell ⟨g, 0, none⟩ v0).setCell ⟨g, 1, none⟩ v1).setCell ⟨g, 2, none⟩ v2).setCell ⟨g, 3, none⟩ v3).setCell ⟨g, 4, none⟩ v4).setCell ⟨g, 5, none⟩ v5).setCell ⟨g, 6, none⟩ v6).setCell ⟨g, 7, none⟩ v7).heap[g]? = some (.cells #[v0, v1, v2, v3, v4, v5, v6, v7] T (0, 0)) := by
  have h0 : (w.setCell ⟨g, 0, none⟩ v0).heap[g]? = some (.cells #[v0, z1, z2, z3, z4, z5, z6, z7] T (0, 0)) := heap_setCell_same _ g 0 _ _ _ h
  have h1 : ((w.setCell ⟨g, 0, none⟩ v0).setCell ⟨g, 1, none⟩ v1).heap[g]? = some (.cells #[v0, v1, z2, z3, z4, z5, z6, z7] T (0, 0)) := heap_setCell_same _ g 1 _ _ _ h0
  have h2 : (((w.setCell ⟨g, 0, none⟩ v0).setCell ⟨g, 1, none⟩ v1).setCell ⟨g, 2, none⟩ v2).heap[g]? = some (.cells #[v0, v1, v2, z3, z4, z5, z6, z7] T (0, 0)) := heap_setCell_same _ g 2 _ _ _ h1
  have h3 : ((((w.setCell ⟨g, 0, none⟩ v0).setCell ⟨g, 1, none⟩ v1).setCell ⟨g, 2, none⟩ v2).setCell ⟨g, 3, none⟩ v3).heap[g]? = some (.cells #[v0, v1, v2, v3, z4, z5, z6, z7] T (0, 0)) := heap_setCell_same _ g 3 _ _ _ h2
  have h4 : (((((w.setCell ⟨g, 0, none⟩ v0).setCell ⟨g, 1, none⟩ v1).setCell ⟨g, 2, none⟩ v2).setCell ⟨g, 3, none⟩ v3).setCell ⟨g, 4, none⟩ v4).heap[g]? = some (.cells #[v0, v1, v2, v3, v4, z5, z6, z7] T (0, 0)) := heap_setCell_same _ g 4 _ _ _ h3
  have h5 : ((((((w.setCell ⟨g, 0, none⟩ v0).setCell ⟨g, 1, none⟩ v1).setCell ⟨g, 2, none⟩ v2).setCell ⟨g, 3, none⟩ v3).setCell ⟨g, 4, none⟩ v4).setCell ⟨g, 5, none⟩ v5).heap[g]? = some (.cells #[v0, v1, v2, v3, v4, v5, z6, z7] T (0, 0)) := heap_setCell_same _ g 5 _ _ _ h4
  have h6 : (((((((w.setCell ⟨g, 0, none⟩ v0).setCell ⟨g, 1, none⟩ v1).setCell ⟨g, 2, none⟩ v2).setCell ⟨g, 3, none⟩ v3).setCell ⟨g, 4, none⟩ v4).setCell ⟨g, 5, none⟩ v5).setCell ⟨g, 6, none⟩ v6).heap[g]? = some (.cells #[v0, v1, v2, v3, v4, v5, v6, z7] T (0, 0)) := heap_setCell_same _ g 6 _ _ _ h5
  have h7 : ((((((((w.setCell ⟨g, 0, none⟩ v0).setCell ⟨g, 1, none⟩ v1).setCell ⟨g, 2, none⟩ v2).setCell ⟨g, 3, none⟩ v3).setCell ⟨g, 4, none⟩ v4).setCell ⟨g, 5, none⟩ v5).setCell ⟨g, 6, none⟩ v6).setCell ⟨g, 7, none⟩ v7).heap[g]? = some (.cells #[v0, v1, v2, v3, v4, v5, v6, v7] T (0, 0)) := heap_setCell_same _ g 7 _ _ _ h6
  exact h7
theorem cell_sets8 {w : World} {g k j : Nat} {v0 v1 v2 v3 v4 v5 v6 v7 : Value} (h : k ≠ g) : ((((((((w.setCell ⟨g, 0, none⟩ v0).setCell ⟨g, 1, none⟩ v1).setCell ⟨g, 2, none⟩ v2).setCell ⟨g, 3, none⟩ v3).setCell ⟨g, 4, none⟩ v4).setCell ⟨g, 5, none⟩ v5).setCell ⟨g, 6, none⟩ v6).setCell ⟨g, 7, none⟩ v7).cell? ⟨k, j, none⟩ = w.cell? ⟨k, j, none⟩ := by
  have e : ((((((((w.setCell ⟨g, 0, none⟩ v0).setCell ⟨g, 1, none⟩ v1).setCell ⟨g, 2, none⟩ v2).setCell ⟨g, 3, none⟩ v3).setCell ⟨g, 4, none⟩ v4).setCell ⟨g, 5, none⟩ v5).setCell ⟨g, 6, none⟩ v6).setCell ⟨g, 7, none⟩ v7).heap[k]? = w.heap[k]? := by
    rw [heap_setCell_other _ _ _ _ h, heap_setCell_other _ _ _ _ h, heap_setCell_other _ _ _ _ h, heap_setCell_other _ _ _ _ h, heap_setCell_other _ _ _ _ h, heap_setCell_other _ _ _ _ h, heap_setCell_other _ _ _ _ h, heap_setCell_other _ _ _ _ h]
  exact World.cell?_of_block e
theorem drew_cell (w : World) (a : Addr) : w.drew.cell? a = w.cell? a := rfl
theorem drew_rw' {w : World} {g : Nat} {o : Obj} (h : w.heap[g]? = some o) : w.drew.heap[g]? = some o := h
theorem cell_sets8d {w : World} {g k j : Nat} {v0 v1 v2 v3 v4 v5 v6 v7 : Value} (h : k ≠ g) : ((((((((w.setCell ⟨g, 0, none⟩ v0).setCell ⟨g, 1, none⟩ v1).setCell ⟨g, 2, none⟩ v2).setCell ⟨g, 3, none⟩ v3).setCell ⟨g, 4, none⟩ v4).setCell ⟨g, 5, none⟩ v5).setCell ⟨g, 6, none⟩ v6).setCell ⟨g, 7, none⟩ v7).drew.cell? ⟨k, j, none⟩ = w.cell? ⟨k, j, none⟩ := (drew_cell _ _).trans (cell_sets8 h)
theorem row_sets8d {w : World} {g : Nat} {T : TypeId} {v0 v1 v2 v3 v4 v5 v6 v7 z0 z1 z2 z3 z4 z5 z6 z7 : Value} (h : w.heap[g]? = some (.cells #[z0, z1, z2, z3, z4, z5, z6, z7] T (0, 0))) : ((((((((w.setCell ⟨g, 0, none⟩ v0).setCell ⟨g, 1, none⟩ v1).setCell ⟨g, 2, none⟩ v2).setCell ⟨g, 3, none⟩ v3).setCell ⟨g, 4, none⟩ v4).setCell ⟨g, 5, none⟩ v5).setCell ⟨g, 6, none⟩ v6).setCell ⟨g, 7, none⟩ v7).drew.heap[g]? = some (.cells #[v0, v1, v2, v3, v4, v5, v6, v7] T (0, 0)) := drew_rw' (row_sets8 h)
theorem below_sets8 {w0 w : World} {B g : Nat} {v0 v1 v2 v3 v4 v5 v6 v7 : Value} (h : Below B w0 w) (hg : B ≤ g) : Below B w0 ((((((((w.setCell ⟨g, 0, none⟩ v0).setCell ⟨g, 1, none⟩ v1).setCell ⟨g, 2, none⟩ v2).setCell ⟨g, 3, none⟩ v3).setCell ⟨g, 4, none⟩ v4).setCell ⟨g, 5, none⟩ v5).setCell ⟨g, 6, none⟩ v6).setCell ⟨g, 7, none⟩ v7) := (((((((h.setCell hg _).setCell hg _).setCell hg _).setCell hg _).setCell hg _).setCell hg _).setCell hg _).setCell hg _

set_option maxHeartbeats 1000000 in
set_option maxRecDepth 100000 in
theorem number_any (ao : Option Addr) (n c : Nat) (l : List Int) (w : World) (h : Bs w ao n c l) (h1 : 1 ≤ n) (h4 : n ≤ 4) : Calls Try.prog 107 #[.slice ao n c] w fun e w' => e = .returned (.int .i64 (val l n)) ∧ w' = w := by
  have q := readFixed_any ao n c l (n : Int) w h
  have hl := h.len
  have e1 : readFixed l (n : Int) = (val l n, 0) := by
    unfold readFixed
    rw [if_neg (by omega), if_neg (by omega), Int.toNat_natCast]
  rw [e1] at q
  have vb := val_bounds h.byt n
  have hp : (2 : Int) ^ (8 * n) ≤ 4294967296 := by
    match n, h1, h4 with
    | 1, _, _ | 2, _, _ | 3, _, _ | 4, _, _ => decide
  have cQ := hide q
  have hle := h.le
  have hmx := h.max
  generalize val l n = V at *
  have hV : wrap64 V = V := by unfold wrap64; omega
  clear q e1 h
  go_enter Try.func107, Try.ntmps107
  go_wp2_with (go_at_call 104; refine same_world (unhide cQ) ?_)
  go_ret
  exact ⟨rfl, rfl⟩

set_option maxHeartbeats 1000000 in
set_option maxRecDepth 100000 in
theorem clockOf_4 (g : Nat) (x0 x1 x2 x3 x4 x5 x6 x7 x8 x9 x10 x11 : Int) (w : World) (hb : ∀ z ∈ [x0, x1, x2, x3, x4, x5, x6, x7, x8, x9, x10, x11], 0 ≤ z ∧ z ≤ 255) (hr : w.heap[g]? = some (.cells #[.int .u8 x0, .int .u8 x1, .int .u8 x2, .int .u8 x3, .int .u8 x4, .int .u8 x5, .int .u8 x6, .int .u8 x7, .int .u8 x8, .int .u8 x9, .int .u8 x10, .int .u8 x11] 132 (0, 0))) : Calls Try.prog 106 #[.slice (some ⟨g, 4, none⟩) 8 8] w fun e w' => e = .returned (.agg #[.bool false, .int .i64 0, .int .i64 0, .int .i64 0, .int .i64 x4, .int .i64 x5, .int .i64 x6, .int .i64 (val [x7, x8, x9, x10] 4)]) ∧ Below w.heap.size w w' := by
  have b1 := below_alloc w (.cells #[.bool false, .int .i64 0, .int .i64 0, .int .i64 0, .int .i64 0, .int .i64 0, .int .i64 0, .int .i64 0] 30)
  have hlt := (Array.getElem?_eq_some_iff.1 hr).1
  have r1 := vrow_later hr b1
  obtain ⟨w1, hw1⟩ : ∃ z, z = w.alloc (.cells #[.bool false, .int .i64 0, .int .i64 0, .int .i64 0, .int .i64 0, .int .i64 0, .int .i64 0, .int .i64 0] 30) := ⟨_, rfl⟩
  have q1 := heap_alloc_new w (.cells #[.bool false, .int .i64 0, .int .i64 0, .int .i64 0, .int .i64 0, .int .i64 0, .int .i64 0, .int .i64 0] 30)
  rw [← hw1] at b1 r1 q1
  have k4 := vrow_cell r1 (j := 4) (v := .int .u8 x4) rfl
  have k5 := vrow_cell r1 (j := 5) (v := .int .u8 x5) rfl
  have k6 := vrow_cell r1 (j := 6) (v := .int .u8 x6) rfl
  have hN : ∀ wx : World, Below w1.heap.size w1 wx → Bs wx (some ⟨g, 7, none⟩) 4 5 [x7, x8, x9, x10] := fun wx bx =>
    ⟨rfl, by omega, by omega, fun z => by (cases z), fun z hz => hb z (by simp at hz ⊢; rcases hz with h | h | h | h <;> simp [h]), .inr ⟨g, 7, rfl, fun i hi => by
      rw [cell_of_row wx g (7 + i) _ _ _ (vrow_later r1 bx)]
      match i, hi with
      | 0, _ => rfl
      | 1, _ => rfl
      | 2, _ => rfl
      | 3, _ => rfl⟩⟩
  have cN := hide (fun wx bx => number_any _ _ _ _ wx (hN wx bx) (by omega) (by omega))
  have vb := val_bounds (hN w1 (Below.refl _ _)).byt 4
  generalize val [x7, x8, x9, x10] 4 = V at *
  have hgn : g ≠ w.heap.size := by omega
  have u4 := hb x4 (by simp)
  have q4 : IntKind.i64.wrap x4 = x4 := by rw [IntKind.wrap_i64]; omega
  have u5 := hb x5 (by simp)
  have q5 : IntKind.i64.wrap x5 = x5 := by rw [IntKind.wrap_i64]; omega
  have u6 := hb x6 (by simp)
  have q6 : IntKind.i64.wrap x6 = x6 := by rw [IntKind.wrap_i64]; omega
  have HW := hide hw1
  have HB1 := hide b1
  have HQ := hide q1
  have c0 := vrow_cell q1 (j := 0) (v := .bool false) rfl
  have f0 := frozen_of_row w1 _ 0 _ _ q1
  have c1 := vrow_cell q1 (j := 1) (v := .int .i64 0) rfl
  have f1 := frozen_of_row w1 _ 1 _ _ q1
  have c2 := vrow_cell q1 (j := 2) (v := .int .i64 0) rfl
  have f2 := frozen_of_row w1 _ 2 _ _ q1
  have c3 := vrow_cell q1 (j := 3) (v := .int .i64 0) rfl
  have f3 := frozen_of_row w1 _ 3 _ _ q1
  have c4 := vrow_cell q1 (j := 4) (v := .int .i64 0) rfl
  have f4 := frozen_of_row w1 _ 4 _ _ q1
  have c5 := vrow_cell q1 (j := 5) (v := .int .i64 0) rfl
  have f5 := frozen_of_row w1 _ 5 _ _ q1
  have c6 := vrow_cell q1 (j := 6) (v := .int .i64 0) rfl
  have f6 := frozen_of_row w1 _ 6 _ _ q1
  have c7 := vrow_cell q1 (j := 7) (v := .int .i64 0) rfl
  have f7 := frozen_of_row w1 _ 7 _ _ q1
  have HR := hide r1
  have KX := hide (show ∀ v0 v1 v2 v3 v4 v5 v6 v7 : Value, ((((((((w1.setCell ⟨w.heap.size, 0, none⟩ v0).setCell ⟨w.heap.size, 1, none⟩ v1).setCell ⟨w.heap.size, 2, none⟩ v2).setCell ⟨w.heap.size, 3, none⟩ v3).setCell ⟨w.heap.size, 4, none⟩ v4).setCell ⟨w.heap.size, 5, none⟩ v5).setCell ⟨w.heap.size, 6, none⟩ v6).setCell ⟨w.heap.size, 7, none⟩ v7).drew.cell? ⟨g, 4, none⟩ = some (.int .u8 x4) ∧ ((((((((w1.setCell ⟨w.heap.size, 0, none⟩ v0).setCell ⟨w.heap.size, 1, none⟩ v1).setCell ⟨w.heap.size, 2, none⟩ v2).setCell ⟨w.heap.size, 3, none⟩ v3).setCell ⟨w.heap.size, 4, none⟩ v4).setCell ⟨w.heap.size, 5, none⟩ v5).setCell ⟨w.heap.size, 6, none⟩ v6).setCell ⟨w.heap.size, 7, none⟩ v7).drew.cell? ⟨g, 5, none⟩ = some (.int .u8 x5) ∧ ((((((((w1.setCell ⟨w.heap.size, 0, none⟩ v0).setCell ⟨w.heap.size, 1, none⟩ v1).setCell ⟨w.heap.size, 2, none⟩ v2).setCell ⟨w.heap.size, 3, none⟩ v3).setCell ⟨w.heap.size, 4, none⟩ v4).setCell ⟨w.heap.size, 5, none⟩ v5).setCell ⟨w.heap.size, 6, none⟩ v6).setCell ⟨w.heap.size, 7, none⟩ v7).drew.cell? ⟨g, 6, none⟩ = some (.int .u8 x6) from fun v0 v1 v2 v3 v4 v5 v6 v7 => ⟨(cell_sets8d hgn).trans k4, (cell_sets8d hgn).trans k5, (cell_sets8d hgn).trans k6⟩)
  clear b1 q1 hw1 hN hb hr
  go_enter Try.func106, Try.ntmps106
  go_upto_region 1 with fail
  rw [← unhide HW]
  go_region_held3 (fun w' => w'.cell? ⟨g, 4, none⟩ = some (.int .u8 x4) ∧ w'.cell? ⟨g, 5, none⟩ = some (.int .u8 x5) ∧ w'.cell? ⟨g, 6, none⟩ = some (.int .u8 x6)) (first | with_reducible exact unhide KX _ _ _ _ _ _ _ _ | go_keep) (first | (go_at_call 107; (with_reducible refine same_world (unhide cN w1.drew ⟨rfl, rfl, rfl, Nat.le_refl _, fun _ _ => rfl⟩) ?_)) | (go_at_call 107; (with_reducible refine same_world (unhide cN w1 (Below.refl _ _)) ?_)))
  all_goals
    go_wp2_with fail
    refine bodyPost_ret (results_cell_row rfl _ _ w.heap.size _ _ _ _ rfl (row_sets8d (unhide HQ)) Try.underlying30 rfl (by kernel_rfl)) rfl ?_
    exact ⟨rfl, Below.drew (below_sets8 (unhide HB1) (Nat.le_refl _))⟩

set_option maxHeartbeats 1000000 in
set_option maxRecDepth 100000 in
theorem clockOf_5 (g : Nat) (x0 x1 x2 x3 x4 x5 x6 x7 x8 x9 x10 x11 : Int) (w : World) (hb : ∀ z ∈ [x0, x1, x2, x3, x4, x5, x6, x7, x8, x9, x10, x11], 0 ≤ z ∧ z ≤ 255) (hr : w.heap[g]? = some (.cells #[.int .u8 x0, .int .u8 x1, .int .u8 x2, .int .u8 x3, .int .u8 x4, .int .u8 x5, .int .u8 x6, .int .u8 x7, .int .u8 x8, .int .u8 x9, .int .u8 x10, .int .u8 x11] 132 (0, 0))) : Calls Try.prog 106 #[.slice (some ⟨g, 5, none⟩) 7 7] w fun e w' => e = .returned (.agg #[.bool false, .int .i64 0, .int .i64 0, .int .i64 0, .int .i64 x5, .int .i64 x6, .int .i64 x7, .int .i64 (val [x8, x9, x10, x11] 4)]) ∧ Below w.heap.size w w' := by
  have b1 := below_alloc w (.cells #[.bool false, .int .i64 0, .int .i64 0, .int .i64 0, .int .i64 0, .int .i64 0, .int .i64 0, .int .i64 0] 30)
  have hlt := (Array.getElem?_eq_some_iff.1 hr).1
  have r1 := vrow_later hr b1
  obtain ⟨w1, hw1⟩ : ∃ z, z = w.alloc (.cells #[.bool false, .int .i64 0, .int .i64 0, .int .i64 0, .int .i64 0, .int .i64 0, .int .i64 0, .int .i64 0] 30) := ⟨_, rfl⟩
  have q1 := heap_alloc_new w (.cells #[.bool false, .int .i64 0, .int .i64 0, .int .i64 0, .int .i64 0, .int .i64 0, .int .i64 0, .int .i64 0] 30)
  rw [← hw1] at b1 r1 q1
  have k5 := vrow_cell r1 (j := 5) (v := .int .u8 x5) rfl
  have k6 := vrow_cell r1 (j := 6) (v := .int .u8 x6) rfl
  have k7 := vrow_cell r1 (j := 7) (v := .int .u8 x7) rfl
  have hN : ∀ wx : World, Below w1.heap.size w1 wx → Bs wx (some ⟨g, 8, none⟩) 4 4 [x8, x9, x10, x11] := fun wx bx =>
    ⟨rfl, by omega, by omega, fun z => by (cases z), fun z hz => hb z (by simp at hz ⊢; rcases hz with h | h | h | h <;> simp [h]), .inr ⟨g, 8, rfl, fun i hi => by
      rw [cell_of_row wx g (8 + i) _ _ _ (vrow_later r1 bx)]
      match i, hi with
      | 0, _ => rfl
      | 1, _ => rfl
      | 2, _ => rfl
      | 3, _ => rfl⟩⟩
  have cN := hide (fun wx bx => number_any _ _ _ _ wx (hN wx bx) (by omega) (by omega))
  have vb := val_bounds (hN w1 (Below.refl _ _)).byt 4
  generalize val [x8, x9, x10, x11] 4 = V at *
  have hgn : g ≠ w.heap.size := by omega
  have u5 := hb x5 (by simp)
  have q5 : IntKind.i64.wrap x5 = x5 := by rw [IntKind.wrap_i64]; omega
  have u6 := hb x6 (by simp)
  have q6 : IntKind.i64.wrap x6 = x6 := by rw [IntKind.wrap_i64]; omega
  have u7 := hb x7 (by simp)
  have q7 : IntKind.i64.wrap x7 = x7 := by rw [IntKind.wrap_i64]; omega
  have HW := hide hw1
  have HB1 := hide b1
  have HQ := hide q1
  have c0 := vrow_cell q1 (j := 0) (v := .bool false) rfl
  have f0 := frozen_of_row w1 _ 0 _ _ q1
  have c1 := vrow_cell q1 (j := 1) (v := .int .i64 0) rfl
  have f1 := frozen_of_row w1 _ 1 _ _ q1
  have c2 := vrow_cell q1 (j := 2) (v := .int .i64 0) rfl
  have f2 := frozen_of_row w1 _ 2 _ _ q1
  have c3 := vrow_cell q1 (j := 3) (v := .int .i64 0) rfl
  have f3 := frozen_of_row w1 _ 3 _ _ q1
  have c4 := vrow_cell q1 (j := 4) (v := .int .i64 0) rfl
  have f4 := frozen_of_row w1 _ 4 _ _ q1
  have c5 := vrow_cell q1 (j := 5) (v := .int .i64 0) rfl
  have f5 := frozen_of_row w1 _ 5 _ _ q1
  have c6 := vrow_cell q1 (j := 6) (v := .int .i64 0) rfl
  have f6 := frozen_of_row w1 _ 6 _ _ q1
  have c7 := vrow_cell q1 (j := 7) (v := .int .i64 0) rfl
  have f7 := frozen_of_row w1 _ 7 _ _ q1
  have HR := hide r1
  have KX := hide (show ∀ v0 v1 v2 v3 v4 v5 v6 v7 : Value, ((((((((w1.setCell ⟨w.heap.size, 0, none⟩ v0).setCell ⟨w.heap.size, 1, none⟩ v1).setCell ⟨w.heap.size, 2, none⟩ v2).setCell ⟨w.heap.size, 3, none⟩ v3).setCell ⟨w.heap.size, 4, none⟩ v4).setCell ⟨w.heap.size, 5, none⟩ v5).setCell ⟨w.heap.size, 6, none⟩ v6).setCell ⟨w.heap.size, 7, none⟩ v7).drew.cell? ⟨g, 5, none⟩ = some (.int .u8 x5) ∧ ((((((((w1.setCell ⟨w.heap.size, 0, none⟩ v0).setCell ⟨w.heap.size, 1, none⟩ v1).setCell ⟨w.heap.size, 2, none⟩ v2).setCell ⟨w.heap.size, 3, none⟩ v3).setCell ⟨w.heap.size, 4, none⟩ v4).setCell ⟨w.heap.size, 5, none⟩ v5).setCell ⟨w.heap.size, 6, none⟩ v6).setCell ⟨w.heap.size, 7, none⟩ v7).drew.cell? ⟨g, 6, none⟩ = some (.int .u8 x6) ∧ ((((((((w1.setCell ⟨w.heap.size, 0, none⟩ v0).setCell ⟨w.heap.size, 1, none⟩ v1).setCell ⟨w.heap.size, 2, none⟩ v2).setCell ⟨w.heap.size, 3, none⟩ v3).setCell ⟨w.heap.size, 4, none⟩ v4).setCell ⟨w.heap.size, 5, none⟩ v5).setCell ⟨w.heap.size, 6, none⟩ v6).setCell ⟨w.heap.size, 7, none⟩ v7).drew.cell? ⟨g, 7, none⟩ = some (.int .u8 x7) from fun v0 v1 v2 v3 v4 v5 v6 v7 => ⟨(cell_sets8d hgn).trans k5, (cell_sets8d hgn).trans k6, (cell_sets8d hgn).trans k7⟩)
  clear b1 q1 hw1 hN hb hr
  go_enter Try.func106, Try.ntmps106
  go_upto_region 1 with fail
  rw [← unhide HW]
  go_region_held3 (fun w' => w'.cell? ⟨g, 5, none⟩ = some (.int .u8 x5) ∧ w'.cell? ⟨g, 6, none⟩ = some (.int .u8 x6) ∧ w'.cell? ⟨g, 7, none⟩ = some (.int .u8 x7)) (first | with_reducible exact unhide KX _ _ _ _ _ _ _ _ | go_keep) (first | (go_at_call 107; (with_reducible refine same_world (unhide cN w1.drew ⟨rfl, rfl, rfl, Nat.le_refl _, fun _ _ => rfl⟩) ?_)) | (go_at_call 107; (with_reducible refine same_world (unhide cN w1 (Below.refl _ _)) ?_)))
  all_goals
    go_wp2_with fail
    refine bodyPost_ret (results_cell_row rfl _ _ w.heap.size _ _ _ _ rfl (row_sets8d (unhide HQ)) Try.underlying30 rfl (by kernel_rfl)) rfl ?_
    exact ⟨rfl, Below.drew (below_sets8 (unhide HB1) (Nat.le_refl _))⟩


end Go.Proofs.Ytfgghgoonfamkaa

namespace Go.Proofs.Ytfgghgoonfamkaa
open Go.RowKit
set_option linter.unusedVariables false
set_option linter.unusedSimpArgs false

/-- Twelve bytes as they lie in a block. -/
def f12 (l : List Int) : Array Value := (l.map (Value.int .u8)).toArray
theorem f12_size (l : List Int) (h : l.length = 12) : (f12 l).size = 12 := by simp [f12, h]
theorem f12_one (l : List Int) : (f12 l).all (·.oneCell') = true := by
  unfold f12
  simp [Value.oneCell']
theorem gb_below {w0 w w' : World} {g : Nat} (hb : Below w0.heap.size w0 w) (h : Gb g w w') (hg : w0.heap.size ≤ g) : Below w0.heap.size w0 w' :=
  hb.trans ⟨h.os, h.tape, h.output, h.size, fun k hk => h.block k (by have := hb.size; omega) (by omega)⟩
theorem rdF_len (b ls : List Int) (hl : ∀ z ∈ ls, 0 ≤ z ∧ z ≤ 12) : (rdF b ls).1.length = 12 := by
  unfold rdF
  split
  · rfl
  split
  · rfl
  split
  · rfl
  · rename_i h1 h2 h3
    have hm : (readFixed b 1).1 ∈ ls := by simpa using h2
    have := hl _ hm
    simp [zer12]
    omega
theorem byteInfo : (Try.prog.info? 5).map (·.size) = some 1 := by kernel_rfl

set_option maxHeartbeats 1000000 in
set_option maxRecDepth 100000 in
theorem readFields_any (bo : Option Addr) (bn bc : Nat) (b : List Int) (g m : Nat) (ls : List Int) (w : World) (hb : Bs w bo bn bc b) (hm : ls.length = m) (hm9 : m ≤ 100) (hl : ∀ z ∈ ls, 0 ≤ z ∧ z ≤ 12) (hc : ∀ j, j < ls.length → w.cell? ⟨g, 0 + j, none⟩ = some (.int .i64 (ls.getD j 0))) :
    Calls Try.prog 105 #[.slice bo bn bc, .slice (some ⟨g, 0, none⟩) m m] w fun e w' => e = .returned (.tuple #[.agg (f12 (rdF b ls).1), .int .i64 (rdF b ls).2.1, .int .i64 (rdF b ls).2.2]) ∧ Below w.heap.size w w' := by
  have b1 := below_alloc w (.cells (f12 zer12) 132)
  have q1 := heap_alloc_new w (.cells (f12 zer12) 132)
  obtain ⟨w1, hw1⟩ : ∃ z, z = w.alloc (.cells (f12 zer12) 132) := ⟨_, rfl⟩
  rw [← hw1] at b1 q1
  have hb1 := hb.later b1
  have cR := hide (readFixed_any bo bn bc b 1 w1 hb1)
  have hbl := hb.len
  have hble := hb.le
  have hbmx := hb.max
  have rv := readFixed_val hb.byt (k := 1) (by omega) (by omega)
  have cC := hide (fun (x : Int) => Try.slices_Contains_int g 0 m m ls x w1 (by omega) (by omega) (fun j hj => (b1.cell (p := ⟨g, 0 + j, none⟩) (World.block_lt_of_cell? w _ (hc j hj))).trans (hc j hj)))
  rw [show ls.take m = ls by rw [← hm, List.take_length]] at cC
  have hR : rdF b ls = (if (readFixed b 1).2 ≠ 0 then (zer12, 0, (readFixed b 1).2) else
  if ls.contains (readFixed b 1).1 = false then (zer12, 0, 5) else
  if (b.length : Int) < 1 + (readFixed b 1).1 then (zer12, 0, 4) else
  ((b.drop 1).take (readFixed b 1).1.toNat ++ zer12.drop (readFixed b 1).1.toNat, 1 + (readFixed b 1).1, 0)) := rfl
  rw [hR]
  have rb := fun hE => readFixed_bd (b := b) (k := 1) (x := (readFixed b 1).1) (er := (readFixed b 1).2) rfl (by omega) hE
  simp only [Int.natCast_one] at rv
  generalize (readFixed b 1).1 = X at *
  generalize (readFixed b 1).2 = E at *
  have hw64 : wrap64 X = X := by unfold wrap64; omega
  have SZ := hide (show (Try.prog.info? 132).map (·.size) = some (f12 zer12).size by kernel_rfl)
  have HW := hide (show w.alloc (.cells #[.int .u8 0, .int .u8 0, .int .u8 0, .int .u8 0, .int .u8 0, .int .u8 0, .int .u8 0, .int .u8 0, .int .u8 0, .int .u8 0, .int .u8 0, .int .u8 0] 132) = w1 from hw1.symm)
  have Q1 := hide q1
  have B1 := hide b1
  clear hw1 q1 b1 hR hb hc
  by_cases hE : E = 0
  · subst hE
    rw [if_neg (by decide)]
    have hb0 := rb rfl
    have cC1 := hide (unhide cC X)
    clear cC rb
    cases hq : ls.contains X
    · rw [hq] at cC1
      rw [if_pos rfl]
      clear hb1
      go_enter Try.func105, Try.ntmps105
      go_wp2_with (first | (go_at_call 104; rw [unhide HW]; refine same_world (unhide cR) ?_) | (go_at_call 114; refine same_world (unhide cC1) ?_) | (with_reducible show wpList Try.prog _ _ (Oper.mk _ (Op.load 132 _) _ _ _ none :: _) _ _; refine wpList_load_row rfl _ (.tmp 4) rfl w.heap.size rfl _ (f12 zer12) (0, 0) _ (unhide Q1) Try.underlying132 rfl (unhide SZ) ?_) | (with_reducible show wpList Try.prog _ _ (Oper.mk _ (Op.store 132 _ _) _ _ _ none :: _) _ _; refine wpList_stG rfl _ (.tmp 4) (.tmp 22) rfl w.heap.size (f12 zer12) (f12 zer12) rfl rfl (unhide Q1) (unhide SZ) rfl (f12_one _) ?_; intro w3 r3 g3 s3; have R3 := hide r3; have B3 := hide (gb_below (unhide B1) g3 (Nat.le_refl _)); clear r3 g3 s3))
      refine bodyPost_ret (results_row_tmp2 rfl _ _ w.heap.size _ rfl (run_loadVar_row _ w.heap.size _ _ _ _ _ (unhide R3) Try.underlying132 rfl (by kernel_rfl))) rfl ?_
      exact ⟨rfl, unhide B3⟩
    · rw [hq] at cC1
      rw [if_neg (by decide)]
      have hX := hl X (by simpa using hq)
      by_cases hs : (b.length : Int) < 1 + X
      · rw [if_pos hs]
        rw [hbl] at hs
        have hs2 : decide ((bn : Int) < 1 + X) = true := decide_eq_true hs
        clear hb1 hs
        go_enter Try.func105, Try.ntmps105
        go_wp2_with (first | (go_at_call 104; rw [unhide HW]; refine same_world (unhide cR) ?_) | (go_at_call 114; refine same_world (unhide cC1) ?_) | (with_reducible show wpList Try.prog _ _ (Oper.mk _ (Op.load 132 _) _ _ _ none :: _) _ _; refine wpList_load_row rfl _ (.tmp 4) rfl w.heap.size rfl _ (f12 zer12) (0, 0) _ (unhide Q1) Try.underlying132 rfl (unhide SZ) ?_) | (with_reducible show wpList Try.prog _ _ (Oper.mk _ (Op.store 132 _ _) _ _ _ none :: _) _ _; refine wpList_stG rfl _ (.tmp 4) (.tmp 30) rfl w.heap.size (f12 zer12) (f12 zer12) rfl rfl (unhide Q1) (unhide SZ) rfl (f12_one _) ?_; intro w3 r3 g3 s3; have R3 := hide r3; have B3 := hide (gb_below (unhide B1) g3 (Nat.le_refl _)); clear r3 g3 s3))
        refine bodyPost_ret (results_row_tmp2 rfl _ _ w.heap.size _ rfl (run_loadVar_row _ w.heap.size _ _ _ _ _ (unhide R3) Try.underlying132 rfl (by kernel_rfl))) rfl ?_
        exact ⟨rfl, unhide B3⟩
      · rw [if_neg hs]
        rw [hbl] at hs
        have hs2 : decide ((bn : Int) < 1 + X) = false := decide_eq_false hs
        obtain ⟨N, rfl⟩ := Int.eq_ofNat_of_zero_le hX.1
        obtain ⟨xo, xc, hcut, hxb⟩ := hb1.cut_lh (lo := 1) (hi := 1 + N) (by omega) (by omega) 1 (1 + (N : Int)) rfl (by omega)
        rw [Nat.add_sub_cancel_left] at hcut hxb
        have hxl := hxb.len
        have HN := hide (show (((b.drop 1).take N).map (Value.int .u8)).length = Nat.min N 12 by rw [List.length_map, hxl]; exact (Nat.min_eq_left (by omega)).symm)
        have HF := hide (show 0 + (((b.drop 1).take N).map (Value.int .u8)).length ≤ (zer12.map (Value.int .u8)).length by rw [List.length_map, hxl]; simp [zer12]; omega)
        have HP := hide (show 0 < (((b.drop 1).take N).map (Value.int .u8)).length → ∃ ad, xo = some ad ∧ ∀ j v, (((b.drop 1).take N).map (Value.int .u8))[j]? = some v → w1.drew.cell? (ad.add j) = some v from fun h0 => by
          rw [List.length_map, hxl] at h0
          cases hxo : xo with
          | none => have := hxb.nil hxo; have := hxb.le; omega
          | some ad => subst hxo; exact ⟨ad, rfl, hxb.news⟩)
        have HS := hide (show (splice (zer12.map (Value.int .u8)) 0 (((b.drop 1).take N).map (Value.int .u8))).toArray = f12 ((b.drop 1).take N ++ zer12.drop N) by
          unfold splice f12
          rw [List.length_map, hxl]
          simp)
        rw [Int.toNat_natCast]
        have hfl : ((b.drop 1).take N ++ zer12.drop N).length = 12 := by rw [List.length_append, hxl]; simp [zer12]; omega
        have SF := hide (show (Try.prog.info? 132).map (·.size) = some (f12 ((b.drop 1).take N ++ zer12.drop N)).size by rw [f12_size _ hfl]; kernel_rfl)
        have HO := hide (f12_one ((b.drop 1).take N ++ zer12.drop N))
        obtain ⟨FF, hFF⟩ : ∃ z, z = f12 ((b.drop 1).take N ++ zer12.drop N) := ⟨_, rfl⟩
        rw [← hFF] at HS SF HO ⊢
        clear hs hb1 hxb hfl hFF
        go_enter Try.func105, Try.ntmps105
        go_upto_region 9 with (first | (go_at_call 104; rw [unhide HW]; refine same_world (unhide cR) ?_) | (go_at_call 114; refine same_world (unhide cC1) ?_))
        go_region_law (refine step_copy_splice rfl (.tmp 31) (.tmp 34) 22 22 rfl 5 Try.underlying22 byteInfo (some ⟨w.heap.size, 0, none⟩) xo 12 12 N xc (by simp [Act.eval, Act.put]) (by simp [Act.eval, Act.put]) w.heap.size 0 (zer12.map (Value.int .u8)) 132 (drew_rw' (unhide Q1)) (((b.drop 1).take N).map (Value.int .u8)) (unhide HN) (fun h0 => ⟨rfl, unhide HP h0⟩) (unhide HF) (ints_oneCell _ _) w.heap.size w (unhide B1).drew (Nat.le_refl _) ?_; intro w4 hg4 hb4)
        all_goals
          have G4 := hide ((unhide hg4).trans (congrArg some (congrArg (fun z => Obj.cells z 132 (0, 0)) (unhide HS))))
          have B4 := hide hb4
          clear hg4 hb4
          go_wp2_with (first | (with_reducible show wpList Try.prog _ _ (Oper.mk _ (Op.load 132 _) _ _ _ none :: _) _ _; refine wpList_load_row rfl _ (.tmp 4) rfl w.heap.size rfl _ FF (0, 0) _ (unhide G4) Try.underlying132 rfl (unhide SF) ?_) | (with_reducible show wpList Try.prog _ _ (Oper.mk _ (Op.store 132 _ _) _ _ _ none :: _) _ _; refine wpList_stG rfl _ (.tmp 4) (.tmp 36) rfl w.heap.size FF FF rfl rfl (unhide G4) (unhide SF) rfl (unhide HO) ?_; intro w3 r3 g3 s3; have R3 := hide r3; have B3 := hide (gb_below (unhide B4) g3 (Nat.le_refl _)); clear r3 g3 s3))
          refine bodyPost_ret (results_row_tmp2 rfl _ _ w.heap.size _ rfl (run_loadVar_row _ w.heap.size _ _ _ _ _ (unhide R3) Try.underlying132 rfl (unhide SF))) rfl ?_
          exact ⟨rfl, unhide B3⟩
  · rw [if_pos hE]
    have hE2 : (E != 0) = true := by simpa using hE
    clear hE cC rb hb1
    go_enter Try.func105, Try.ntmps105
    go_wp2_with (first | (go_at_call 104; rw [unhide HW]; refine same_world (unhide cR) ?_) | (with_reducible show wpList Try.prog _ _ (Oper.mk _ (Op.load 132 _) _ _ _ none :: _) _ _; refine wpList_load_row rfl _ (.tmp 4) rfl w.heap.size rfl _ (f12 zer12) (0, 0) _ (unhide Q1) Try.underlying132 rfl (unhide SZ) ?_) | (with_reducible show wpList Try.prog _ _ (Oper.mk _ (Op.store 132 _ _) _ _ _ none :: _) _ _; refine wpList_stG rfl _ (.tmp 4) (.tmp 15) rfl w.heap.size (f12 zer12) (f12 zer12) rfl rfl (unhide Q1) (unhide SZ) rfl (f12_one _) ?_; intro w3 r3 g3 s3; have R3 := hide r3; have B3 := hide (gb_below (unhide B1) g3 (Nat.le_refl _)); clear r3 g3 s3))
    refine bodyPost_ret (results_row_tmp2 rfl _ _ w.heap.size _ rfl (run_loadVar_row _ w.heap.size _ _ _ _ _ (unhide R3) Try.underlying132 rfl (by kernel_rfl))) rfl ?_
    exact ⟨rfl, unhide B3⟩


end Go.Proofs.Ytfgghgoonfamkaa
