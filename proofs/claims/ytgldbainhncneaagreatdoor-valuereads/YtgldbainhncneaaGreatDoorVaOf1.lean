/-
  What guess of package value returns, of the kinds that have a text. It writes nothing that was there. Conditions: the library's variables read as their initialisers lay them; texts of at most 2^40 bytes; the type is a byte.
-/
import Derived.Test.YtgldbainhncneaaGreatDoorVaGs
import Derived.Test.YtgldbainhncneaaGreatDoorVaRd5
namespace Go.Proofs.YtgldbainhncneaaGreatDoor
open Go.RowKit
set_option linter.unusedVariables false
set_option linter.unusedSimpArgs false

theorem set_when {w : World} {g : Nat} {T : TypeId} {z0 z1 z2 z3 z4 z5 z6 z7 z8 z9 z10 z11 v0 v1 v2 v3 v4 v5 v6 v7 : Value} (h : w.heap[g]? = some (.cells #[z0, z1, z2, z3, z4, z5, z6, z7, z8, z9, z10, z11] T (0, 0))) : ((((((((w.setCell ⟨g, 4, none⟩ v0).setCell ⟨g, 5, none⟩ v1).setCell ⟨g, 6, none⟩ v2).setCell ⟨g, 7, none⟩ v3).setCell ⟨g, 8, none⟩ v4).setCell ⟨g, 9, none⟩ v5).setCell ⟨g, 10, none⟩ v6).setCell ⟨g, 11, none⟩ v7).heap[g]? = some (.cells #[z0, z1, z2, z3, v0, v1, v2, v3, v4, v5, v6, v7] T (0, 0)) := by
  have h0 : (w.setCell ⟨g, 4, none⟩ v0).heap[g]? = some (.cells #[z0, z1, z2, z3, v0, z5, z6, z7, z8, z9, z10, z11] T (0, 0)) := heap_setCell_same _ g 4 _ _ _ h
  have h1 : ((w.setCell ⟨g, 4, none⟩ v0).setCell ⟨g, 5, none⟩ v1).heap[g]? = some (.cells #[z0, z1, z2, z3, v0, v1, z6, z7, z8, z9, z10, z11] T (0, 0)) := heap_setCell_same _ g 5 _ _ _ h0
  have h2 : (((w.setCell ⟨g, 4, none⟩ v0).setCell ⟨g, 5, none⟩ v1).setCell ⟨g, 6, none⟩ v2).heap[g]? = some (.cells #[z0, z1, z2, z3, v0, v1, v2, z7, z8, z9, z10, z11] T (0, 0)) := heap_setCell_same _ g 6 _ _ _ h1
  have h3 : ((((w.setCell ⟨g, 4, none⟩ v0).setCell ⟨g, 5, none⟩ v1).setCell ⟨g, 6, none⟩ v2).setCell ⟨g, 7, none⟩ v3).heap[g]? = some (.cells #[z0, z1, z2, z3, v0, v1, v2, v3, z8, z9, z10, z11] T (0, 0)) := heap_setCell_same _ g 7 _ _ _ h2
  have h4 : (((((w.setCell ⟨g, 4, none⟩ v0).setCell ⟨g, 5, none⟩ v1).setCell ⟨g, 6, none⟩ v2).setCell ⟨g, 7, none⟩ v3).setCell ⟨g, 8, none⟩ v4).heap[g]? = some (.cells #[z0, z1, z2, z3, v0, v1, v2, v3, v4, z9, z10, z11] T (0, 0)) := heap_setCell_same _ g 8 _ _ _ h3
  have h5 : ((((((w.setCell ⟨g, 4, none⟩ v0).setCell ⟨g, 5, none⟩ v1).setCell ⟨g, 6, none⟩ v2).setCell ⟨g, 7, none⟩ v3).setCell ⟨g, 8, none⟩ v4).setCell ⟨g, 9, none⟩ v5).heap[g]? = some (.cells #[z0, z1, z2, z3, v0, v1, v2, v3, v4, v5, z10, z11] T (0, 0)) := heap_setCell_same _ g 9 _ _ _ h4
  have h6 : (((((((w.setCell ⟨g, 4, none⟩ v0).setCell ⟨g, 5, none⟩ v1).setCell ⟨g, 6, none⟩ v2).setCell ⟨g, 7, none⟩ v3).setCell ⟨g, 8, none⟩ v4).setCell ⟨g, 9, none⟩ v5).setCell ⟨g, 10, none⟩ v6).heap[g]? = some (.cells #[z0, z1, z2, z3, v0, v1, v2, v3, v4, v5, v6, z11] T (0, 0)) := heap_setCell_same _ g 10 _ _ _ h5
  have h7 : ((((((((w.setCell ⟨g, 4, none⟩ v0).setCell ⟨g, 5, none⟩ v1).setCell ⟨g, 6, none⟩ v2).setCell ⟨g, 7, none⟩ v3).setCell ⟨g, 8, none⟩ v4).setCell ⟨g, 9, none⟩ v5).setCell ⟨g, 10, none⟩ v6).setCell ⟨g, 11, none⟩ v7).heap[g]? = some (.cells #[z0, z1, z2, z3, v0, v1, v2, v3, v4, v5, v6, v7] T (0, 0)) := heap_setCell_same _ g 11 _ _ _ h6
  exact h7
theorem set_when_gb {w : World} {g : Nat} {v0 v1 v2 v3 v4 v5 v6 v7 : Value} : Gb g w ((((((((w.setCell ⟨g, 4, none⟩ v0).setCell ⟨g, 5, none⟩ v1).setCell ⟨g, 6, none⟩ v2).setCell ⟨g, 7, none⟩ v3).setCell ⟨g, 8, none⟩ v4).setCell ⟨g, 9, none⟩ v5).setCell ⟨g, 10, none⟩ v6).setCell ⟨g, 11, none⟩ v7) := (Gb.set (Gb.set (Gb.set (Gb.set (Gb.set (Gb.set (Gb.set (Gb.set (Gb.refl g w) 4 v0) 5 v1) 6 v2) 7 v3) 8 v4) 9 v5) 10 v6) 11 v7)
theorem set_one_gb {w : World} {g i : Nat} {v : Value} : Gb g w (w.setCell ⟨g, i, none⟩ v) := ⟨rfl, rfl, rfl, by simp, fun k _ hk => heap_setCell_other _ _ _ _ hk⟩
theorem Pz.gb {w0 w w' : World} {t : Int} {un : Bool} {C : Array Value} {g : Nat} (h : Pz w0 t un C w) (hg : Gb g w w') (hl : w0.heap.size + 1 < g) : Pz w0 t un C w' :=
  ⟨(hg.block _ (Array.getElem?_eq_some_iff.1 h.rt).1 (by omega)).trans h.rt, (hg.block _ (Array.getElem?_eq_some_iff.1 h.rr).1 (by omega)).trans h.rr, gb_below h.bl hg (by omega)⟩

set_option maxHeartbeats 1000000 in
set_option maxRecDepth 100000 in
theorem guess_1 (s : ByteArray) (t : Int) (un : Bool) (w : World) (q0 : 0 ≤ t) (q1 : t < 256) (hz : VarZ w) (hs : s.size ≤ 1099511627776) (hk : kdV t un = 1) :
    Calls Tryz.prog 25 #[.string s, .agg #[.int .u8 t, .bool un]] w fun e w' => e = .returned (.agg (vaC (gsV s t un))) ∧ Below w.heap.size w w' := by
  have e1 : gsV s t un = ⟨1, piV s.data.toList, 0, ⟨#[]⟩, wh0⟩ := by
    unfold gsV
    simp only [hk]
    rfl
  rw [e1]
  have P0 := Pz.new w t un (vaC va0)
  obtain ⟨w2, hw2⟩ : ∃ z, z = (w.alloc (.cells #[.int .u8 t, .bool un] 23)).alloc (.cells (vaC va0) 32) := ⟨_, rfl⟩
  rw [← hw2] at P0
  have cK := hide (kind_any t un w2 q0 q1)
  rw [hk] at cK
  have cA := hide (fun wx (hx : VarZ wx) => parseInt_any s hs wx hx)
  generalize piV s.data.toList = X at *
  have RW := hide (fun (wx : World) (gx : Nat) (hx : wx.heap[gx]? = some (.cells #[.int .i64 1, .int .i64 0, .int .u64 0, .string ⟨#[]⟩, .bool false, .int .i64 0, .int .i64 0, .int .i64 0, .int .i64 0, .int .i64 0, .int .i64 0, .int .i64 0] 32 (0, 0))) => (show (wx.setCell ⟨gx, 1, none⟩ (.int .i64 X)).heap[gx]? = some (.cells (vaC ⟨1, X, 0, ⟨#[]⟩, wh0⟩) 32 (0, 0)) from heap_setCell_same wx gx 1 _ _ _ hx))
  have GW := hide (fun (wx : World) (gx : Nat) => (show Gb gx wx (wx.setCell ⟨gx, 1, none⟩ (.int .i64 X)) from set_one_gb))
  have SV := hide (vaC_size ⟨1, X, 0, ⟨#[]⟩, wh0⟩)
  have OV := hide (vaC_one ⟨1, X, 0, ⟨#[]⟩, wh0⟩)
  have HW := hide (show (w.alloc (.cells #[.int .u8 t, .bool un] 23)).alloc (.cells #[.int .i64 0, .int .i64 0, .int .u64 0, .string ⟨#[]⟩, .bool false, .int .i64 0, .int .i64 0, .int .i64 0, .int .i64 0, .int .i64 0, .int .i64 0, .int .i64 0] 32) = w2 from hw2.symm)
  have PP := hide P0
  have ZZ := hide hz
  obtain ⟨t0, t1⟩ := P0.cells
  clear hw2 P0 e1 q0 q1 hz hk hs
  go_enter Tryz.func25, Tryz.ntmps25
  go_wp2_with (first | (go_at_call 22; rw [unhide HW]; (with_reducible refine (unhide cK).mono ?_); rintro e w3 ⟨rfl, b3⟩; have P3 := (unhide PP).later b3; have Z3 := hide ((unhide ZZ).later (unhide PP).bl |>.later b3); have b4 := below_alloc w3 (.cells #[.int .i64 1, .int .i64 0, .int .u64 0, .string ⟨#[]⟩, .bool false, .int .i64 0, .int .i64 0, .int .i64 0, .int .i64 0, .int .i64 0, .int .i64 0, .int .i64 0] 32); have r4 := heap_alloc_new w3 (.cells #[.int .i64 1, .int .i64 0, .int .u64 0, .string ⟨#[]⟩, .bool false, .int .i64 0, .int .i64 0, .int .i64 0, .int .i64 0, .int .i64 0, .int .i64 0, .int .i64 0] 32); have l4 := (Array.getElem?_eq_some_iff.1 P3.rr).1; obtain ⟨w4, hw4⟩ : ∃ z, z = w3.alloc (.cells #[.int .i64 1, .int .i64 0, .int .u64 0, .string ⟨#[]⟩, .bool false, .int .i64 0, .int .i64 0, .int .i64 0, .int .i64 0, .int .i64 0, .int .i64 0, .int .i64 0] 32) := ⟨_, rfl⟩; rw [← hw4] at b4 r4; have P4 := P3.later b4; have Z4 := hide ((unhide Z3).later b4); have PP := hide P4; have R4 := hide r4; have L4 := hide l4; have HW4 := hide hw4.symm; clear b3 b4 r4 l4 P3 P4 hw4 t0 t1) | (go_at_call 56; rw [unhide HW4]; (with_reducible refine (unhide cA _ (unhide Z4)).mono ?_); rintro e w5 ⟨er, rfl, b5⟩; have P5 := (unhide PP).later b5; have r5 := vrow_later (unhide R4) b5; have c1 := vrow_cell r5 (j := 1) (v := .int .i64 0) rfl; have f1 := frozen_of_row _ _ 1 _ _ r5; have PP := hide P5; have R5 := hide r5; clear b5 r5 P5) | (with_reducible show wpList Tryz.prog _ _ (Oper.mk _ (Op.load 32 _) _ _ _ none :: _) _ _; have P6 := (unhide PP).gb (unhide GW w5 w3.heap.size) (unhide L4); have r6 := (unhide RW _ _ (unhide R5)); obtain ⟨w6, hw6⟩ : ∃ z, z = (w5.setCell ⟨w3.heap.size, 1, none⟩ (.int .i64 X)) := ⟨_, rfl⟩; rw [← hw6] at P6 r6 ⊢; have PP := hide P6; clear hw6 P6; refine wpList_load_row rfl _ (.tmp 5) rfl w3.heap.size rfl _ (vaC ⟨1, X, 0, ⟨#[]⟩, wh0⟩) (0, 0) _ r6 Tryz.underlying32 rfl (unhide SV) ?_) | (with_reducible show wpList Tryz.prog _ _ (Oper.mk _ (Op.store 32 _ _) _ _ _ none :: _) _ _; refine wpList_stG rfl _ (.tmp 4) (.tmp 41) rfl (w.heap.size + 1) (vaC ⟨1, X, 0, ⟨#[]⟩, wh0⟩) (vaC va0) rfl rfl (unhide PP).rr (unhide SV) rfl (unhide OV) ?_; intro w8 r8 g8 s8; have P8 := hide ((unhide PP).set r8 g8); clear r8 g8 s8))
  refine bodyPost_ret (results_cell_row rfl _ _ (w.heap.size + 1) _ _ _ _ rfl (unhide P8).rr Tryz.underlying32 rfl (unhide SV)) rfl ?_
  exact ⟨rfl, (unhide P8).bl⟩

set_option maxHeartbeats 1000000 in
set_option maxRecDepth 100000 in
theorem guess_2 (s : ByteArray) (t : Int) (un : Bool) (w : World) (q0 : 0 ≤ t) (q1 : t < 256) (hz : VarZ w) (hs : s.size ≤ 1099511627776) (hk : kdV t un = 2) :
    Calls Tryz.prog 25 #[.string s, .agg #[.int .u8 t, .bool un]] w fun e w' => e = .returned (.agg (vaC (gsV s t un))) ∧ Below w.heap.size w w' := by
  have e1 : gsV s t un = ⟨2, 0, puV s.data.toList, ⟨#[]⟩, wh0⟩ := by
    unfold gsV
    simp only [hk]
    rfl
  rw [e1]
  have P0 := Pz.new w t un (vaC va0)
  obtain ⟨w2, hw2⟩ : ∃ z, z = (w.alloc (.cells #[.int .u8 t, .bool un] 23)).alloc (.cells (vaC va0) 32) := ⟨_, rfl⟩
  rw [← hw2] at P0
  have cK := hide (kind_any t un w2 q0 q1)
  rw [hk] at cK
  have cA := hide (fun wx (hx : VarZ wx) => parseUint_any s hs wx hx)
  generalize puV s.data.toList = X at *
  have RW := hide (fun (wx : World) (gx : Nat) (hx : wx.heap[gx]? = some (.cells #[.int .i64 2, .int .i64 0, .int .u64 0, .string ⟨#[]⟩, .bool false, .int .i64 0, .int .i64 0, .int .i64 0, .int .i64 0, .int .i64 0, .int .i64 0, .int .i64 0] 32 (0, 0))) => (show (wx.setCell ⟨gx, 2, none⟩ (.int .u64 X)).heap[gx]? = some (.cells (vaC ⟨2, 0, X, ⟨#[]⟩, wh0⟩) 32 (0, 0)) from heap_setCell_same wx gx 2 _ _ _ hx))
  have GW := hide (fun (wx : World) (gx : Nat) => (show Gb gx wx (wx.setCell ⟨gx, 2, none⟩ (.int .u64 X)) from set_one_gb))
  have SV := hide (vaC_size ⟨2, 0, X, ⟨#[]⟩, wh0⟩)
  have OV := hide (vaC_one ⟨2, 0, X, ⟨#[]⟩, wh0⟩)
  have HW := hide (show (w.alloc (.cells #[.int .u8 t, .bool un] 23)).alloc (.cells #[.int .i64 0, .int .i64 0, .int .u64 0, .string ⟨#[]⟩, .bool false, .int .i64 0, .int .i64 0, .int .i64 0, .int .i64 0, .int .i64 0, .int .i64 0, .int .i64 0] 32) = w2 from hw2.symm)
  have PP := hide P0
  have ZZ := hide hz
  obtain ⟨t0, t1⟩ := P0.cells
  clear hw2 P0 e1 q0 q1 hz hk hs
  go_enter Tryz.func25, Tryz.ntmps25
  go_wp2_with (first | (go_at_call 22; rw [unhide HW]; (with_reducible refine (unhide cK).mono ?_); rintro e w3 ⟨rfl, b3⟩; have P3 := (unhide PP).later b3; have Z3 := hide ((unhide ZZ).later (unhide PP).bl |>.later b3); have b4 := below_alloc w3 (.cells #[.int .i64 2, .int .i64 0, .int .u64 0, .string ⟨#[]⟩, .bool false, .int .i64 0, .int .i64 0, .int .i64 0, .int .i64 0, .int .i64 0, .int .i64 0, .int .i64 0] 32); have r4 := heap_alloc_new w3 (.cells #[.int .i64 2, .int .i64 0, .int .u64 0, .string ⟨#[]⟩, .bool false, .int .i64 0, .int .i64 0, .int .i64 0, .int .i64 0, .int .i64 0, .int .i64 0, .int .i64 0] 32); have l4 := (Array.getElem?_eq_some_iff.1 P3.rr).1; obtain ⟨w4, hw4⟩ : ∃ z, z = w3.alloc (.cells #[.int .i64 2, .int .i64 0, .int .u64 0, .string ⟨#[]⟩, .bool false, .int .i64 0, .int .i64 0, .int .i64 0, .int .i64 0, .int .i64 0, .int .i64 0, .int .i64 0] 32) := ⟨_, rfl⟩; rw [← hw4] at b4 r4; have P4 := P3.later b4; have Z4 := hide ((unhide Z3).later b4); have PP := hide P4; have R4 := hide r4; have L4 := hide l4; have HW4 := hide hw4.symm; clear b3 b4 r4 l4 P3 P4 hw4 t0 t1) | (go_at_call 57; rw [unhide HW4]; (with_reducible refine (unhide cA _ (unhide Z4)).mono ?_); rintro e w5 ⟨er, rfl, b5⟩; have P5 := (unhide PP).later b5; have r5 := vrow_later (unhide R4) b5; have c2 := vrow_cell r5 (j := 2) (v := .int .u64 0) rfl; have f2 := frozen_of_row _ _ 2 _ _ r5; have PP := hide P5; have R5 := hide r5; clear b5 r5 P5) | (with_reducible show wpList Tryz.prog _ _ (Oper.mk _ (Op.load 32 _) _ _ _ none :: _) _ _; have P6 := (unhide PP).gb (unhide GW w5 w3.heap.size) (unhide L4); have r6 := (unhide RW _ _ (unhide R5)); obtain ⟨w6, hw6⟩ : ∃ z, z = (w5.setCell ⟨w3.heap.size, 2, none⟩ (.int .u64 X)) := ⟨_, rfl⟩; rw [← hw6] at P6 r6 ⊢; have PP := hide P6; clear hw6 P6; refine wpList_load_row rfl _ (.tmp 5) rfl w3.heap.size rfl _ (vaC ⟨2, 0, X, ⟨#[]⟩, wh0⟩) (0, 0) _ r6 Tryz.underlying32 rfl (unhide SV) ?_) | (with_reducible show wpList Tryz.prog _ _ (Oper.mk _ (Op.store 32 _ _) _ _ _ none :: _) _ _; refine wpList_stG rfl _ (.tmp 4) (.tmp 41) rfl (w.heap.size + 1) (vaC ⟨2, 0, X, ⟨#[]⟩, wh0⟩) (vaC va0) rfl rfl (unhide PP).rr (unhide SV) rfl (unhide OV) ?_; intro w8 r8 g8 s8; have P8 := hide ((unhide PP).set r8 g8); clear r8 g8 s8))
  refine bodyPost_ret (results_cell_row rfl _ _ (w.heap.size + 1) _ _ _ _ rfl (unhide P8).rr Tryz.underlying32 rfl (unhide SV)) rfl ?_
  exact ⟨rfl, (unhide P8).bl⟩

set_option maxHeartbeats 1000000 in
set_option maxRecDepth 100000 in
theorem guess_5 (s : ByteArray) (t : Int) (un : Bool) (w : World) (q0 : 0 ≤ t) (q1 : t < 256) (hz : VarZ w) (hs : s.size ≤ 1099511627776) (hk : kdV t un = 5) :
    Calls Tryz.prog 25 #[.string s, .agg #[.int .u8 t, .bool un]] w fun e w' => e = .returned (.agg (vaC (gsV s t un))) ∧ Below w.heap.size w w' := by
  have e1 : gsV s t un = ⟨5, 0, 0, ⟨#[]⟩, gsD s.data.toList⟩ := by
    unfold gsV
    simp only [hk]
    rfl
  rw [e1]
  have P0 := Pz.new w t un (vaC va0)
  obtain ⟨w2, hw2⟩ : ∃ z, z = (w.alloc (.cells #[.int .u8 t, .bool un] 23)).alloc (.cells (vaC va0) 32) := ⟨_, rfl⟩
  rw [← hw2] at P0
  have cK := hide (kind_any t un w2 q0 q1)
  rw [hk] at cK
  have cA := hide (fun wx (hx : VarZ wx) => guessDate_any s wx hx hs)
  generalize gsD s.data.toList = X at *
  obtain ⟨ng, y, mo, d, h, mi, s1, mc⟩ := X
  unfold whC at cA
  simp only at cA
  have RW := hide (fun (wx : World) (gx : Nat) (hx : wx.heap[gx]? = some (.cells #[.int .i64 5, .int .i64 0, .int .u64 0, .string ⟨#[]⟩, .bool false, .int .i64 0, .int .i64 0, .int .i64 0, .int .i64 0, .int .i64 0, .int .i64 0, .int .i64 0] 32 (0, 0))) => (show ((((((((wx.setCell ⟨gx, 4, none⟩ (.bool ng)).setCell ⟨gx, 5, none⟩ (.int .i64 y)).setCell ⟨gx, 6, none⟩ (.int .i64 mo)).setCell ⟨gx, 7, none⟩ (.int .i64 d)).setCell ⟨gx, 8, none⟩ (.int .i64 h)).setCell ⟨gx, 9, none⟩ (.int .i64 mi)).setCell ⟨gx, 10, none⟩ (.int .i64 s1)).setCell ⟨gx, 11, none⟩ (.int .i64 mc)).heap[gx]? = some (.cells (vaC ⟨5, 0, 0, ⟨#[]⟩, ⟨ng, y, mo, d, h, mi, s1, mc⟩⟩) 32 (0, 0)) from set_when hx))
  have GW := hide (fun (wx : World) (gx : Nat) => (show Gb gx wx ((((((((wx.setCell ⟨gx, 4, none⟩ (.bool ng)).setCell ⟨gx, 5, none⟩ (.int .i64 y)).setCell ⟨gx, 6, none⟩ (.int .i64 mo)).setCell ⟨gx, 7, none⟩ (.int .i64 d)).setCell ⟨gx, 8, none⟩ (.int .i64 h)).setCell ⟨gx, 9, none⟩ (.int .i64 mi)).setCell ⟨gx, 10, none⟩ (.int .i64 s1)).setCell ⟨gx, 11, none⟩ (.int .i64 mc)) from set_when_gb))
  have SV := hide (vaC_size ⟨5, 0, 0, ⟨#[]⟩, ⟨ng, y, mo, d, h, mi, s1, mc⟩⟩)
  have OV := hide (vaC_one ⟨5, 0, 0, ⟨#[]⟩, ⟨ng, y, mo, d, h, mi, s1, mc⟩⟩)
  have HW := hide (show (w.alloc (.cells #[.int .u8 t, .bool un] 23)).alloc (.cells #[.int .i64 0, .int .i64 0, .int .u64 0, .string ⟨#[]⟩, .bool false, .int .i64 0, .int .i64 0, .int .i64 0, .int .i64 0, .int .i64 0, .int .i64 0, .int .i64 0] 32) = w2 from hw2.symm)
  have PP := hide P0
  have ZZ := hide hz
  obtain ⟨t0, t1⟩ := P0.cells
  clear hw2 P0 e1 q0 q1 hz hk hs
  go_enter Tryz.func25, Tryz.ntmps25
  go_wp2_with (first | (go_at_call 22; rw [unhide HW]; (with_reducible refine (unhide cK).mono ?_); rintro e w3 ⟨rfl, b3⟩; have P3 := (unhide PP).later b3; have Z3 := hide ((unhide ZZ).later (unhide PP).bl |>.later b3); have b4 := below_alloc w3 (.cells #[.int .i64 5, .int .i64 0, .int .u64 0, .string ⟨#[]⟩, .bool false, .int .i64 0, .int .i64 0, .int .i64 0, .int .i64 0, .int .i64 0, .int .i64 0, .int .i64 0] 32); have r4 := heap_alloc_new w3 (.cells #[.int .i64 5, .int .i64 0, .int .u64 0, .string ⟨#[]⟩, .bool false, .int .i64 0, .int .i64 0, .int .i64 0, .int .i64 0, .int .i64 0, .int .i64 0, .int .i64 0] 32); have l4 := (Array.getElem?_eq_some_iff.1 P3.rr).1; obtain ⟨w4, hw4⟩ : ∃ z, z = w3.alloc (.cells #[.int .i64 5, .int .i64 0, .int .u64 0, .string ⟨#[]⟩, .bool false, .int .i64 0, .int .i64 0, .int .i64 0, .int .i64 0, .int .i64 0, .int .i64 0, .int .i64 0] 32) := ⟨_, rfl⟩; rw [← hw4] at b4 r4; have P4 := P3.later b4; have Z4 := hide ((unhide Z3).later b4); have PP := hide P4; have R4 := hide r4; have L4 := hide l4; have HW4 := hide hw4.symm; clear b3 b4 r4 l4 P3 P4 hw4 t0 t1) | (go_at_call 58; rw [unhide HW4]; (with_reducible refine (unhide cA _ (unhide Z4)).mono ?_); rintro e w5 ⟨rfl, b5⟩; have P5 := (unhide PP).later b5; have r5 := vrow_later (unhide R4) b5; have c4 := vrow_cell r5 (j := 4) (v := .bool false) rfl; have f4 := frozen_of_row _ _ 4 _ _ r5; have c5 := vrow_cell r5 (j := 5) (v := .int .i64 0) rfl; have f5 := frozen_of_row _ _ 5 _ _ r5; have c6 := vrow_cell r5 (j := 6) (v := .int .i64 0) rfl; have f6 := frozen_of_row _ _ 6 _ _ r5; have c7 := vrow_cell r5 (j := 7) (v := .int .i64 0) rfl; have f7 := frozen_of_row _ _ 7 _ _ r5; have c8 := vrow_cell r5 (j := 8) (v := .int .i64 0) rfl; have f8 := frozen_of_row _ _ 8 _ _ r5; have c9 := vrow_cell r5 (j := 9) (v := .int .i64 0) rfl; have f9 := frozen_of_row _ _ 9 _ _ r5; have c10 := vrow_cell r5 (j := 10) (v := .int .i64 0) rfl; have f10 := frozen_of_row _ _ 10 _ _ r5; have c11 := vrow_cell r5 (j := 11) (v := .int .i64 0) rfl; have f11 := frozen_of_row _ _ 11 _ _ r5; have PP := hide P5; have R5 := hide r5; clear b5 r5 P5) | (with_reducible show wpList Tryz.prog _ _ (Oper.mk _ (Op.load 32 _) _ _ _ none :: _) _ _; have P6 := (unhide PP).gb (unhide GW w5 w3.heap.size) (unhide L4); have r6 := (unhide RW _ _ (unhide R5)); obtain ⟨w6, hw6⟩ : ∃ z, z = ((((((((w5.setCell ⟨w3.heap.size, 4, none⟩ (.bool ng)).setCell ⟨w3.heap.size, 5, none⟩ (.int .i64 y)).setCell ⟨w3.heap.size, 6, none⟩ (.int .i64 mo)).setCell ⟨w3.heap.size, 7, none⟩ (.int .i64 d)).setCell ⟨w3.heap.size, 8, none⟩ (.int .i64 h)).setCell ⟨w3.heap.size, 9, none⟩ (.int .i64 mi)).setCell ⟨w3.heap.size, 10, none⟩ (.int .i64 s1)).setCell ⟨w3.heap.size, 11, none⟩ (.int .i64 mc)) := ⟨_, rfl⟩; rw [← hw6] at P6 r6 ⊢; have PP := hide P6; clear hw6 P6; refine wpList_load_row rfl _ (.tmp 5) rfl w3.heap.size rfl _ (vaC ⟨5, 0, 0, ⟨#[]⟩, ⟨ng, y, mo, d, h, mi, s1, mc⟩⟩) (0, 0) _ r6 Tryz.underlying32 rfl (unhide SV) ?_) | (with_reducible show wpList Tryz.prog _ _ (Oper.mk _ (Op.store 32 _ _) _ _ _ none :: _) _ _; refine wpList_stG rfl _ (.tmp 4) (.tmp 41) rfl (w.heap.size + 1) (vaC ⟨5, 0, 0, ⟨#[]⟩, ⟨ng, y, mo, d, h, mi, s1, mc⟩⟩) (vaC va0) rfl rfl (unhide PP).rr (unhide SV) rfl (unhide OV) ?_; intro w8 r8 g8 s8; have P8 := hide ((unhide PP).set r8 g8); clear r8 g8 s8))
  refine bodyPost_ret (results_cell_row rfl _ _ (w.heap.size + 1) _ _ _ _ rfl (unhide P8).rr Tryz.underlying32 rfl (unhide SV)) rfl ?_
  exact ⟨rfl, (unhide P8).bl⟩

set_option maxHeartbeats 1000000 in
set_option maxRecDepth 100000 in
theorem guess_6 (s : ByteArray) (t : Int) (un : Bool) (w : World) (q0 : 0 ≤ t) (q1 : t < 256) (hz : VarZ w) (hs : s.size ≤ 1099511627776) (hk : kdV t un = 6) :
    Calls Tryz.prog 25 #[.string s, .agg #[.int .u8 t, .bool un]] w fun e w' => e = .returned (.agg (vaC (gsV s t un))) ∧ Below w.heap.size w w' := by
  have e1 : gsV s t un = ⟨6, 0, 0, ⟨#[]⟩, gsT s.data.toList⟩ := by
    unfold gsV
    simp only [hk]
    rfl
  rw [e1]
  have P0 := Pz.new w t un (vaC va0)
  obtain ⟨w2, hw2⟩ : ∃ z, z = (w.alloc (.cells #[.int .u8 t, .bool un] 23)).alloc (.cells (vaC va0) 32) := ⟨_, rfl⟩
  rw [← hw2] at P0
  have cK := hide (kind_any t un w2 q0 q1)
  rw [hk] at cK
  have cA := hide (fun wx (hx : VarZ wx) => guessTime_any s wx hx hs)
  generalize gsT s.data.toList = X at *
  obtain ⟨ng, y, mo, d, h, mi, s1, mc⟩ := X
  unfold whC at cA
  simp only at cA
  have RW := hide (fun (wx : World) (gx : Nat) (hx : wx.heap[gx]? = some (.cells #[.int .i64 6, .int .i64 0, .int .u64 0, .string ⟨#[]⟩, .bool false, .int .i64 0, .int .i64 0, .int .i64 0, .int .i64 0, .int .i64 0, .int .i64 0, .int .i64 0] 32 (0, 0))) => (show ((((((((wx.setCell ⟨gx, 4, none⟩ (.bool ng)).setCell ⟨gx, 5, none⟩ (.int .i64 y)).setCell ⟨gx, 6, none⟩ (.int .i64 mo)).setCell ⟨gx, 7, none⟩ (.int .i64 d)).setCell ⟨gx, 8, none⟩ (.int .i64 h)).setCell ⟨gx, 9, none⟩ (.int .i64 mi)).setCell ⟨gx, 10, none⟩ (.int .i64 s1)).setCell ⟨gx, 11, none⟩ (.int .i64 mc)).heap[gx]? = some (.cells (vaC ⟨6, 0, 0, ⟨#[]⟩, ⟨ng, y, mo, d, h, mi, s1, mc⟩⟩) 32 (0, 0)) from set_when hx))
  have GW := hide (fun (wx : World) (gx : Nat) => (show Gb gx wx ((((((((wx.setCell ⟨gx, 4, none⟩ (.bool ng)).setCell ⟨gx, 5, none⟩ (.int .i64 y)).setCell ⟨gx, 6, none⟩ (.int .i64 mo)).setCell ⟨gx, 7, none⟩ (.int .i64 d)).setCell ⟨gx, 8, none⟩ (.int .i64 h)).setCell ⟨gx, 9, none⟩ (.int .i64 mi)).setCell ⟨gx, 10, none⟩ (.int .i64 s1)).setCell ⟨gx, 11, none⟩ (.int .i64 mc)) from set_when_gb))
  have SV := hide (vaC_size ⟨6, 0, 0, ⟨#[]⟩, ⟨ng, y, mo, d, h, mi, s1, mc⟩⟩)
  have OV := hide (vaC_one ⟨6, 0, 0, ⟨#[]⟩, ⟨ng, y, mo, d, h, mi, s1, mc⟩⟩)
  have HW := hide (show (w.alloc (.cells #[.int .u8 t, .bool un] 23)).alloc (.cells #[.int .i64 0, .int .i64 0, .int .u64 0, .string ⟨#[]⟩, .bool false, .int .i64 0, .int .i64 0, .int .i64 0, .int .i64 0, .int .i64 0, .int .i64 0, .int .i64 0] 32) = w2 from hw2.symm)
  have PP := hide P0
  have ZZ := hide hz
  obtain ⟨t0, t1⟩ := P0.cells
  clear hw2 P0 e1 q0 q1 hz hk hs
  go_enter Tryz.func25, Tryz.ntmps25
  go_wp2_with (first | (go_at_call 22; rw [unhide HW]; (with_reducible refine (unhide cK).mono ?_); rintro e w3 ⟨rfl, b3⟩; have P3 := (unhide PP).later b3; have Z3 := hide ((unhide ZZ).later (unhide PP).bl |>.later b3); have b4 := below_alloc w3 (.cells #[.int .i64 6, .int .i64 0, .int .u64 0, .string ⟨#[]⟩, .bool false, .int .i64 0, .int .i64 0, .int .i64 0, .int .i64 0, .int .i64 0, .int .i64 0, .int .i64 0] 32); have r4 := heap_alloc_new w3 (.cells #[.int .i64 6, .int .i64 0, .int .u64 0, .string ⟨#[]⟩, .bool false, .int .i64 0, .int .i64 0, .int .i64 0, .int .i64 0, .int .i64 0, .int .i64 0, .int .i64 0] 32); have l4 := (Array.getElem?_eq_some_iff.1 P3.rr).1; obtain ⟨w4, hw4⟩ : ∃ z, z = w3.alloc (.cells #[.int .i64 6, .int .i64 0, .int .u64 0, .string ⟨#[]⟩, .bool false, .int .i64 0, .int .i64 0, .int .i64 0, .int .i64 0, .int .i64 0, .int .i64 0, .int .i64 0] 32) := ⟨_, rfl⟩; rw [← hw4] at b4 r4; have P4 := P3.later b4; have Z4 := hide ((unhide Z3).later b4); have PP := hide P4; have R4 := hide r4; have L4 := hide l4; have HW4 := hide hw4.symm; clear b3 b4 r4 l4 P3 P4 hw4 t0 t1) | (go_at_call 59; rw [unhide HW4]; (with_reducible refine (unhide cA _ (unhide Z4)).mono ?_); rintro e w5 ⟨rfl, b5⟩; have P5 := (unhide PP).later b5; have r5 := vrow_later (unhide R4) b5; have c4 := vrow_cell r5 (j := 4) (v := .bool false) rfl; have f4 := frozen_of_row _ _ 4 _ _ r5; have c5 := vrow_cell r5 (j := 5) (v := .int .i64 0) rfl; have f5 := frozen_of_row _ _ 5 _ _ r5; have c6 := vrow_cell r5 (j := 6) (v := .int .i64 0) rfl; have f6 := frozen_of_row _ _ 6 _ _ r5; have c7 := vrow_cell r5 (j := 7) (v := .int .i64 0) rfl; have f7 := frozen_of_row _ _ 7 _ _ r5; have c8 := vrow_cell r5 (j := 8) (v := .int .i64 0) rfl; have f8 := frozen_of_row _ _ 8 _ _ r5; have c9 := vrow_cell r5 (j := 9) (v := .int .i64 0) rfl; have f9 := frozen_of_row _ _ 9 _ _ r5; have c10 := vrow_cell r5 (j := 10) (v := .int .i64 0) rfl; have f10 := frozen_of_row _ _ 10 _ _ r5; have c11 := vrow_cell r5 (j := 11) (v := .int .i64 0) rfl; have f11 := frozen_of_row _ _ 11 _ _ r5; have PP := hide P5; have R5 := hide r5; clear b5 r5 P5) | (with_reducible show wpList Tryz.prog _ _ (Oper.mk _ (Op.load 32 _) _ _ _ none :: _) _ _; have P6 := (unhide PP).gb (unhide GW w5 w3.heap.size) (unhide L4); have r6 := (unhide RW _ _ (unhide R5)); obtain ⟨w6, hw6⟩ : ∃ z, z = ((((((((w5.setCell ⟨w3.heap.size, 4, none⟩ (.bool ng)).setCell ⟨w3.heap.size, 5, none⟩ (.int .i64 y)).setCell ⟨w3.heap.size, 6, none⟩ (.int .i64 mo)).setCell ⟨w3.heap.size, 7, none⟩ (.int .i64 d)).setCell ⟨w3.heap.size, 8, none⟩ (.int .i64 h)).setCell ⟨w3.heap.size, 9, none⟩ (.int .i64 mi)).setCell ⟨w3.heap.size, 10, none⟩ (.int .i64 s1)).setCell ⟨w3.heap.size, 11, none⟩ (.int .i64 mc)) := ⟨_, rfl⟩; rw [← hw6] at P6 r6 ⊢; have PP := hide P6; clear hw6 P6; refine wpList_load_row rfl _ (.tmp 5) rfl w3.heap.size rfl _ (vaC ⟨6, 0, 0, ⟨#[]⟩, ⟨ng, y, mo, d, h, mi, s1, mc⟩⟩) (0, 0) _ r6 Tryz.underlying32 rfl (unhide SV) ?_) | (with_reducible show wpList Tryz.prog _ _ (Oper.mk _ (Op.store 32 _ _) _ _ _ none :: _) _ _; refine wpList_stG rfl _ (.tmp 4) (.tmp 41) rfl (w.heap.size + 1) (vaC ⟨6, 0, 0, ⟨#[]⟩, ⟨ng, y, mo, d, h, mi, s1, mc⟩⟩) (vaC va0) rfl rfl (unhide PP).rr (unhide SV) rfl (unhide OV) ?_; intro w8 r8 g8 s8; have P8 := hide ((unhide PP).set r8 g8); clear r8 g8 s8))
  refine bodyPost_ret (results_cell_row rfl _ _ (w.heap.size + 1) _ _ _ _ rfl (unhide P8).rr Tryz.underlying32 rfl (unhide SV)) rfl ?_
  exact ⟨rfl, (unhide P8).bl⟩

set_option maxHeartbeats 1000000 in
set_option maxRecDepth 100000 in
theorem guess_7 (s : ByteArray) (t : Int) (un : Bool) (w : World) (q0 : 0 ≤ t) (q1 : t < 256) (hz : VarZ w) (hs : s.size ≤ 1099511627776) (hk : kdV t un = 7) :
    Calls Tryz.prog 25 #[.string s, .agg #[.int .u8 t, .bool un]] w fun e w' => e = .returned (.agg (vaC (gsV s t un))) ∧ Below w.heap.size w w' := by
  have e1 : gsV s t un = ⟨7, 0, 0, s, wh0⟩ := by
    unfold gsV
    simp only [hk]
    rfl
  rw [e1]
  have P0 := Pz.new w t un (vaC va0)
  obtain ⟨w2, hw2⟩ : ∃ z, z = (w.alloc (.cells #[.int .u8 t, .bool un] 23)).alloc (.cells (vaC va0) 32) := ⟨_, rfl⟩
  rw [← hw2] at P0
  have cK := hide (kind_any t un w2 q0 q1)
  rw [hk] at cK
  have SV := hide (vaC_size ⟨7, 0, 0, s, wh0⟩)
  have OV := hide (vaC_one ⟨7, 0, 0, s, wh0⟩)
  have HW := hide (show (w.alloc (.cells #[.int .u8 t, .bool un] 23)).alloc (.cells #[.int .i64 0, .int .i64 0, .int .u64 0, .string ⟨#[]⟩, .bool false, .int .i64 0, .int .i64 0, .int .i64 0, .int .i64 0, .int .i64 0, .int .i64 0, .int .i64 0] 32) = w2 from hw2.symm)
  have PP := hide P0
  skip
  obtain ⟨t0, t1⟩ := P0.cells
  clear hw2 P0 e1 q0 q1 hz hk hs
  go_enter Tryz.func25, Tryz.ntmps25
  go_wp2_with (first | (go_at_call 22; rw [unhide HW]; (with_reducible refine (unhide cK).mono ?_); rintro e w3 ⟨rfl, b3⟩; have P3 := (unhide PP).later b3; have b4 := below_alloc w3 (.cells #[.int .i64 7, .int .i64 0, .int .u64 0, .string s, .bool false, .int .i64 0, .int .i64 0, .int .i64 0, .int .i64 0, .int .i64 0, .int .i64 0, .int .i64 0] 32); have r4 := heap_alloc_new w3 (.cells #[.int .i64 7, .int .i64 0, .int .u64 0, .string s, .bool false, .int .i64 0, .int .i64 0, .int .i64 0, .int .i64 0, .int .i64 0, .int .i64 0, .int .i64 0] 32); have P4 := P3.later b4; have PP := hide P4; have R4 := hide r4; clear b3 b4 r4 P3 P4 t0 t1) | (with_reducible show wpList Tryz.prog _ _ (Oper.mk _ (Op.load 32 _) _ _ _ none :: _) _ _; have P6 := unhide PP; have r6 := unhide R4; obtain ⟨w6, hw6⟩ : ∃ z, z = w3.alloc (.cells #[.int .i64 7, .int .i64 0, .int .u64 0, .string s, .bool false, .int .i64 0, .int .i64 0, .int .i64 0, .int .i64 0, .int .i64 0, .int .i64 0, .int .i64 0] 32) := ⟨_, rfl⟩; rw [← hw6] at P6 r6 ⊢; have PP := hide P6; clear hw6 P6; refine wpList_load_row rfl _ (.tmp 5) rfl w3.heap.size rfl _ (vaC ⟨7, 0, 0, s, wh0⟩) (0, 0) _ r6 Tryz.underlying32 rfl (unhide SV) ?_) | (with_reducible show wpList Tryz.prog _ _ (Oper.mk _ (Op.store 32 _ _) _ _ _ none :: _) _ _; refine wpList_stG rfl _ (.tmp 4) (.tmp 41) rfl (w.heap.size + 1) (vaC ⟨7, 0, 0, s, wh0⟩) (vaC va0) rfl rfl (unhide PP).rr (unhide SV) rfl (unhide OV) ?_; intro w8 r8 g8 s8; have P8 := hide ((unhide PP).set r8 g8); clear r8 g8 s8))
  refine bodyPost_ret (results_cell_row rfl _ _ (w.heap.size + 1) _ _ _ _ rfl (unhide P8).rr Tryz.underlying32 rfl (unhide SV)) rfl ?_
  exact ⟨rfl, (unhide P8).bl⟩


end Go.Proofs.YtgldbainhncneaaGreatDoor
