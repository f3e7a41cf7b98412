/-
  What cut and hasNull of package row return. They write nothing that was there. Conditions: the slice can be read, at most 100,000 bytes; the type is a byte.
-/
import Derived.Test.YtkcblnojgonblaaGreatDoorRwPlain
import Derived.Test.YtkcblnojgonblaaGreatDoorRwLeaf
import Derived.Test.YtkcblnojgonblaaGreatDoorVaRd6
import Derived.Deep.RegionHeld3
import Derived.BigQuiet
namespace Go.Proofs.YtkcblnojgonblaaGreatDoor
open Go.RowKit
set_option linter.unusedVariables false
set_option linter.unusedSimpArgs false

theorem rsets12 {w : World} {g : Nat} {T : TypeId} {z0 z1 z2 z3 z4 z5 z6 z7 z8 z9 z10 z11 v0 v1 v2 v3 v4 v5 v6 v7 v8 v9 v10 v11 : Value} (h : w.heap[g]? = some (.cells #[z0, z1, z2, z3, z4, z5, z6, z7, z8, z9, z10, z11] T (0, 0))) : ((((((((((((w.setCell ⟨g, 0, none⟩ v0).setCell ⟨g, 1, none⟩ v1).setCell ⟨g, 2, none⟩ v2).setCell ⟨g, 3, none⟩ v3).setCell ⟨g, 4, none⟩ v4).setCell ⟨g, 5, none⟩ v5).setCell ⟨g, 6, none⟩ v6).setCell ⟨g, 7, none⟩ v7).setCell ⟨g, 8, none⟩ v8).setCell ⟨g, 9, none⟩ v9).setCell ⟨g, 10, none⟩ v10).setCell ⟨g, 11, none⟩ v11).heap[g]? = some (.cells #[v0, v1, v2, v3, v4, v5, v6, v7, v8, v9, v10, v11] T (0, 0)) := by
  have h0 : (w.setCell ⟨g, 0, none⟩ v0).heap[g]? = some (.cells #[v0, z1, z2, z3, z4, z5, z6, z7, z8, z9, z10, z11] T (0, 0)) := heap_setCell_same _ g 0 _ _ _ h
  have h1 : ((w.setCell ⟨g, 0, none⟩ v0).setCell ⟨g, 1, none⟩ v1).heap[g]? = some (.cells #[v0, v1, z2, z3, z4, z5, z6, z7, z8, z9, z10, z11] T (0, 0)) := heap_setCell_same _ g 1 _ _ _ h0
  have h2 : (((w.setCell ⟨g, 0, none⟩ v0).setCell ⟨g, 1, none⟩ v1).setCell ⟨g, 2, none⟩ v2).heap[g]? = some (.cells #[v0, v1, v2, z3, z4, z5, z6, z7, z8, z9, z10, z11] T (0, 0)) := heap_setCell_same _ g 2 _ _ _ h1
  have h3 : ((((w.setCell ⟨g, 0, none⟩ v0).setCell ⟨g, 1, none⟩ v1).setCell ⟨g, 2, none⟩ v2).setCell ⟨g, 3, none⟩ v3).heap[g]? = some (.cells #[v0, v1, v2, v3, z4, z5, z6, z7, z8, z9, z10, z11] T (0, 0)) := heap_setCell_same _ g 3 _ _ _ h2
  have h4 : (((((w.setCell ⟨g, 0, none⟩ v0).setCell ⟨g, 1, none⟩ v1).setCell ⟨g, 2, none⟩ v2).setCell ⟨g, 3, none⟩ v3).setCell ⟨g, 4, none⟩ v4).heap[g]? = some (.cells #[v0, v1, v2, v3, v4, z5, z6, z7, z8, z9, z10, z11] T (0, 0)) := heap_setCell_same _ g 4 _ _ _ h3
  have h5 : ((((((w.setCell ⟨g, 0, none⟩ v0).setCell ⟨g, 1, none⟩ v1).setCell ⟨g, 2, none⟩ v2).setCell ⟨g, 3, none⟩ v3).setCell ⟨g, 4, none⟩ v4).setCell ⟨g, 5, none⟩ v5).heap[g]? = some (.cells #[v0, v1, v2, v3, v4, v5, z6, z7, z8, z9, z10, z11] T (0, 0)) := heap_setCell_same _ g 5 _ _ _ h4
  have h6 : (((((((w.setCell ⟨g, 0, none⟩ v0).setCell ⟨g, 1, none⟩ v1).setCell ⟨g, 2, none⟩ v2).setCell ⟨g, 3, none⟩ v3).setCell ⟨g, 4, none⟩ v4).setCell ⟨g, 5, none⟩ v5).setCell ⟨g, 6, none⟩ v6).heap[g]? = some (.cells #[v0, v1, v2, v3, v4, v5, v6, z7, z8, z9, z10, z11] T (0, 0)) := heap_setCell_same _ g 6 _ _ _ h5
  have h7 : ((((((((w.setCell ⟨g, 0, none⟩ v0).setCell ⟨g, 1, none⟩ v1).setCell ⟨g, 2, none⟩ v2).setCell ⟨g, 3, none⟩ v3).setCell ⟨g, 4, none⟩ v4).setCell ⟨g, 5, none⟩ v5).setCell ⟨g, 6, none⟩ v6).setCell ⟨g, 7, none⟩ v7).heap[g]? = some (.cells #[v0, v1, v2, v3, v4, v5, v6, v7, z8, z9, z10, z11] T (0, 0)) := heap_setCell_same _ g 7 _ _ _ h6
  have h8 : (((((((((w.setCell ⟨g, 0, none⟩ v0).setCell ⟨g, 1, none⟩ v1).setCell ⟨g, 2, none⟩ v2).setCell ⟨g, 3, none⟩ v3).setCell ⟨g, 4, none⟩ v4).setCell ⟨g, 5, none⟩ v5).setCell ⟨g, 6, none⟩ v6).setCell ⟨g, 7, none⟩ v7).setCell ⟨g, 8, none⟩ v8).heap[g]? = some (.cells #[v0, v1, v2, v3, v4, v5, v6, v7, v8, z9, z10, z11] T (0, 0)) := heap_setCell_same _ g 8 _ _ _ h7
  have h9 : ((((((((((w.setCell ⟨g, 0, none⟩ v0).setCell ⟨g, 1, none⟩ v1).setCell ⟨g, 2, none⟩ v2).setCell ⟨g, 3, none⟩ v3).setCell ⟨g, 4, none⟩ v4).setCell ⟨g, 5, none⟩ v5).setCell ⟨g, 6, none⟩ v6).setCell ⟨g, 7, none⟩ v7).setCell ⟨g, 8, none⟩ v8).setCell ⟨g, 9, none⟩ v9).heap[g]? = some (.cells #[v0, v1, v2, v3, v4, v5, v6, v7, v8, v9, z10, z11] T (0, 0)) := heap_setCell_same _ g 9 _ _ _ h8
  have h10 : (((((((((((w.setCell ⟨g, 0, none⟩ v0).setCell ⟨g, 1, none⟩ v1).setCell ⟨g, 2, none⟩ v2).setCell ⟨g, 3, none⟩ v3).setCell ⟨g, 4, none⟩ v4).setCell ⟨g, 5, none⟩ v5).setCell ⟨g, 6, none⟩ v6).setCell ⟨g, 7, none⟩ v7).setCell ⟨g, 8, none⟩ v8).setCell ⟨g, 9, none⟩ v9).setCell ⟨g, 10, none⟩ v10).heap[g]? = some (.cells #[v0, v1, v2, v3, v4, v5, v6, v7, v8, v9, v10, z11] T (0, 0)) := heap_setCell_same _ g 10 _ _ _ h9
  have h11 : ((((((((((((w.setCell ⟨g, 0, none⟩ v0).setCell ⟨g, 1, none⟩ v1).setCell ⟨g, 2, none⟩ v2).setCell ⟨g, 3, none⟩ v3).setCell ⟨g, 4, none⟩ v4).setCell ⟨g, 5, none⟩ v5).setCell ⟨g, 6, none⟩ v6).setCell ⟨g, 7, none⟩ v7).setCell ⟨g, 8, none⟩ v8).setCell ⟨g, 9, none⟩ v9).setCell ⟨g, 10, none⟩ v10).setCell ⟨g, 11, none⟩ v11).heap[g]? = some (.cells #[v0, v1, v2, v3, v4, v5, v6, v7, v8, v9, v10, v11] T (0, 0)) := heap_setCell_same _ g 11 _ _ _ h10
  exact h11
theorem gsets12 {w : World} {g : Nat} {v0 v1 v2 v3 v4 v5 v6 v7 v8 v9 v10 v11 : Value} : Gb g w ((((((((((((w.setCell ⟨g, 0, none⟩ v0).setCell ⟨g, 1, none⟩ v1).setCell ⟨g, 2, none⟩ v2).setCell ⟨g, 3, none⟩ v3).setCell ⟨g, 4, none⟩ v4).setCell ⟨g, 5, none⟩ v5).setCell ⟨g, 6, none⟩ v6).setCell ⟨g, 7, none⟩ v7).setCell ⟨g, 8, none⟩ v8).setCell ⟨g, 9, none⟩ v9).setCell ⟨g, 10, none⟩ v10).setCell ⟨g, 11, none⟩ v11) := (((((((((((((Gb.refl g w).set 0 v0).set 1 v1).set 2 v2).set 3 v3).set 4 v4).set 5 v5).set 6 v6).set 7 v7).set 8 v8).set 9 v9).set 10 v10).set 11 v11)

theorem Bs.cutl {w : World} {ao : Option Addr} {n c : Nat} {bs : List Int} (h : Bs w ao n c bs) {lo : Nat} (h1 : lo ≤ n) (L : Int) (hL : L = lo) :
    ∃ ao' c', (∀ wx, (Instr.slice 29 (.slice ao n c) (some (.int .i64 L)) none none).run Tryz.prog wx = .ok (.slice ao' (n - lo) c') wx) ∧ Bs w ao' (n - lo) c' (bs.drop lo) ∧ ∀ k, ob ao' k → ob ao k :=
  ⟨_, _, run_cut_l ao n c lo h1 L hL, by have := h.cut h1 (Nat.le_refl n); rwa [List.take_of_length_le (by simp [h.len])] at this, fun k hk => ob_cut hk⟩
theorem rdV_er {b : List Int} {t : Int} {un : Bool} (h : (rdV b t un).2.2 ≠ 0) : rdV b t un = (va0, 0, (rdV b t un).2.2) := by
  unfold rdV at h ⊢
  split
  · rfl
  · rename_i q
    rw [if_neg q] at h
    split
    · rfl
    · rename_i q2
      rw [if_neg q2] at h
      exact absurd rfl h
theorem rdV_bd {b : List Int} {t : Int} {un : Bool} (hb : Byt b) (hl : b.length ≤ 100000) : 0 ≤ (rdV b t un).2.1 ∧ (rdV b t un).2.1 ≤ b.length := by
  by_cases h : (rdV b t un).2.2 = 0
  · obtain ⟨_, _, _, h4, h5⟩ := rdV_ok hb hl h
    omega
  · rw [rdV_er h]
    exact ⟨Int.le_refl _, by show (0 : Int) ≤ _; omega⟩
/-- What is left behind a value. -/
def rdL (b : List Int) (t : Int) (un : Bool) : List Int := b.drop (rdV b t un).2.1.toNat

theorem drew_row1 {w : World} {g : Nat} {o : Obj} (h : w.heap[g]? = some o) : w.drew.heap[g]? = some o := h

set_option maxHeartbeats 4000000 in
set_option maxRecDepth 100000 in
theorem cut_any (bo : Option Addr) (bn bc : Nat) (b : List Int) (t : Int) (un : Bool) (w : World) (q0 : 0 ≤ t) (q1 : t < 256) (hb : Bs w bo bn bc b) (hn : bn ≤ 100000) :
    Calls Tryz.prog 25 #[.slice bo bn bc, .agg #[.int .u8 t, .bool un]] w fun e w' => ∃ lo ln lc, e = .returned (.tuple #[.agg (vaC (rdV b t un).1), .slice lo ln lc, .int .i64 (rdV b t un).2.2]) ∧ Bs w' lo ln lc (rdL b t un) ∧ (∀ k, ob lo k → ob bo k) ∧ Below w.heap.size w w' := by
  have P0 := Pz.new w t un (vaC va0)
  obtain ⟨w2, hw2⟩ : ∃ z, z = (w.alloc (.cells #[.int .u8 t, .bool un] 23)).alloc (.cells (vaC va0) 38) := ⟨_, rfl⟩
  rw [← hw2] at P0
  have cR := hide (read_any bo bn bc b t un w2 q0 q1 (hb.later P0.bl))
  have HW := hide (show (w.alloc (.cells #[.int .u8 t, .bool un] 23)).alloc (.cells #[.int .i64 0, .int .i64 0, .int .u64 0, .string ⟨#[]⟩, .bool false, .int .i64 0, .int .i64 0, .int .i64 0, .int .i64 0, .int .i64 0, .int .i64 0, .int .i64 0] 38) = w2 from hw2.symm)
  have PP := hide P0
  have hbl := hb.len
  have hbm := hb.max
  have hbe := hb.le
  obtain ⟨n0, n1⟩ := rdV_bd (t := t) (un := un) hb.byt (by omega)
  obtain ⟨lo, lc, hcut, hlb, hob⟩ := hb.cutl (lo := (rdV b t un).2.1.toNat) (by omega) (rdV b t un).2.1 (by omega)
  have HLB := hide (show Bs w lo (bn - (rdV b t un).2.1.toNat) lc (rdL b t un) from hlb)
  have HOB := hide hob
  obtain ⟨t0, t1⟩ := P0.cells
  clear hw2 P0 hb hlb hob q0 q1
  generalize rdL b t un = LL at *
  obtain ⟨R, hR⟩ : ∃ z, z = rdV b t un := ⟨_, rfl⟩
  rw [← hR] at cR n0 n1 hcut HLB ⊢
  clear hR
  obtain ⟨V, N, E⟩ := R
  simp only at cR n0 n1 hcut HLB ⊢
  have SV := hide (vaC_size V)
  have OV := hide (vaC_one V)
  generalize N.toNat = NN at *
  go_enter Tryz.func25, Tryz.ntmps25
  go_upto_region 2 with (first | (go_at_call 53; rw [unhide HW]; (with_reducible refine (unhide cR).mono ?_); rintro e w3 ⟨rfl, b3⟩; have PP := hide ((unhide PP).later b3); clear t0 t1; obtain ⟨t0, t1⟩ := (unhide PP).cells; clear b3) | (with_reducible show wpList Tryz.prog _ _ (Oper.mk _ (Op.store 38 _ _) _ _ _ none :: _) _ _; refine wpList_stG rfl _ (.tmp 4) (.tmp 12) rfl (w.heap.size + 1) (vaC V) (vaC va0) (by simp [Act.eval, Act.put]) (by simp [Act.eval, Act.put]) (unhide PP).rr (unhide SV) rfl (unhide OV) ?_; intro w4 r4 g4 s4; have P4 := hide ((unhide PP).set r4 g4); clear r4 g4 s4))
  clear cR HW PP
  obtain ⟨k, i, b, tx, ⟨ng, y, mo, d, h, mi, s, mc⟩⟩ := V
  unfold vaC at SV OV P4 ⊢
  simp only at SV OV P4 ⊢
  have RV := (unhide P4).rr
  have uf0 := frozen_of_row _ _ 0 _ _ (unhide P4).rr
  have uf1 := frozen_of_row _ _ 1 _ _ (unhide P4).rr
  have uf2 := frozen_of_row _ _ 2 _ _ (unhide P4).rr
  have uf3 := frozen_of_row _ _ 3 _ _ (unhide P4).rr
  have uf4 := frozen_of_row _ _ 4 _ _ (unhide P4).rr
  have uf5 := frozen_of_row _ _ 5 _ _ (unhide P4).rr
  have uf6 := frozen_of_row _ _ 6 _ _ (unhide P4).rr
  have uf7 := frozen_of_row _ _ 7 _ _ (unhide P4).rr
  have uf8 := frozen_of_row _ _ 8 _ _ (unhide P4).rr
  have uf9 := frozen_of_row _ _ 9 _ _ (unhide P4).rr
  have uf10 := frozen_of_row _ _ 10 _ _ (unhide P4).rr
  have uf11 := frozen_of_row _ _ 11 _ _ (unhide P4).rr
  have HS0 := hide (show w4.drew.cell? ⟨w.heap.size + 1, 0, none⟩ = some (.int .i64 k) ∧ w4.drew.cell? ⟨w.heap.size + 1, 1, none⟩ = some (.int .i64 i) ∧ w4.drew.cell? ⟨w.heap.size + 1, 2, none⟩ = some (.int .u64 b) ∧ w4.drew.cell? ⟨w.heap.size + 1, 3, none⟩ = some (.string tx) ∧ w4.drew.cell? ⟨w.heap.size + 1, 4, none⟩ = some (.bool ng) ∧ w4.drew.cell? ⟨w.heap.size + 1, 5, none⟩ = some (.int .i64 y) ∧ w4.drew.cell? ⟨w.heap.size + 1, 6, none⟩ = some (.int .i64 mo) ∧ w4.drew.cell? ⟨w.heap.size + 1, 7, none⟩ = some (.int .i64 d) ∧ w4.drew.cell? ⟨w.heap.size + 1, 8, none⟩ = some (.int .i64 h) ∧ w4.drew.cell? ⟨w.heap.size + 1, 9, none⟩ = some (.int .i64 mi) ∧ w4.drew.cell? ⟨w.heap.size + 1, 10, none⟩ = some (.int .i64 s) ∧ w4.drew.cell? ⟨w.heap.size + 1, 11, none⟩ = some (.int .i64 mc) from ⟨vrow_cell RV (j := 0) (v := .int .i64 k) rfl, vrow_cell RV (j := 1) (v := .int .i64 i) rfl, vrow_cell RV (j := 2) (v := .int .u64 b) rfl, vrow_cell RV (j := 3) (v := .string tx) rfl, vrow_cell RV (j := 4) (v := .bool ng) rfl, vrow_cell RV (j := 5) (v := .int .i64 y) rfl, vrow_cell RV (j := 6) (v := .int .i64 mo) rfl, vrow_cell RV (j := 7) (v := .int .i64 d) rfl, vrow_cell RV (j := 8) (v := .int .i64 h) rfl, vrow_cell RV (j := 9) (v := .int .i64 mi) rfl, vrow_cell RV (j := 10) (v := .int .i64 s) rfl, vrow_cell RV (j := 11) (v := .int .i64 mc) rfl⟩)
  have HS1 := hide (show ((((((((((((w4.setCell ⟨w.heap.size + 1, 0, none⟩ (.int .i64 k)).setCell ⟨w.heap.size + 1, 1, none⟩ (.int .i64 i)).setCell ⟨w.heap.size + 1, 2, none⟩ (.int .u64 b)).setCell ⟨w.heap.size + 1, 3, none⟩ (.string tx)).setCell ⟨w.heap.size + 1, 4, none⟩ (.bool ng)).setCell ⟨w.heap.size + 1, 5, none⟩ (.int .i64 y)).setCell ⟨w.heap.size + 1, 6, none⟩ (.int .i64 mo)).setCell ⟨w.heap.size + 1, 7, none⟩ (.int .i64 d)).setCell ⟨w.heap.size + 1, 8, none⟩ (.int .i64 h)).setCell ⟨w.heap.size + 1, 9, none⟩ (.int .i64 mi)).setCell ⟨w.heap.size + 1, 10, none⟩ (.int .i64 s)).setCell ⟨w.heap.size + 1, 11, none⟩ (.int .i64 mc)).drew.cell? ⟨w.heap.size + 1, 0, none⟩ = some (.int .i64 k) ∧ ((((((((((((w4.setCell ⟨w.heap.size + 1, 0, none⟩ (.int .i64 k)).setCell ⟨w.heap.size + 1, 1, none⟩ (.int .i64 i)).setCell ⟨w.heap.size + 1, 2, none⟩ (.int .u64 b)).setCell ⟨w.heap.size + 1, 3, none⟩ (.string tx)).setCell ⟨w.heap.size + 1, 4, none⟩ (.bool ng)).setCell ⟨w.heap.size + 1, 5, none⟩ (.int .i64 y)).setCell ⟨w.heap.size + 1, 6, none⟩ (.int .i64 mo)).setCell ⟨w.heap.size + 1, 7, none⟩ (.int .i64 d)).setCell ⟨w.heap.size + 1, 8, none⟩ (.int .i64 h)).setCell ⟨w.heap.size + 1, 9, none⟩ (.int .i64 mi)).setCell ⟨w.heap.size + 1, 10, none⟩ (.int .i64 s)).setCell ⟨w.heap.size + 1, 11, none⟩ (.int .i64 mc)).drew.cell? ⟨w.heap.size + 1, 1, none⟩ = some (.int .i64 i) ∧ ((((((((((((w4.setCell ⟨w.heap.size + 1, 0, none⟩ (.int .i64 k)).setCell ⟨w.heap.size + 1, 1, none⟩ (.int .i64 i)).setCell ⟨w.heap.size + 1, 2, none⟩ (.int .u64 b)).setCell ⟨w.heap.size + 1, 3, none⟩ (.string tx)).setCell ⟨w.heap.size + 1, 4, none⟩ (.bool ng)).setCell ⟨w.heap.size + 1, 5, none⟩ (.int .i64 y)).setCell ⟨w.heap.size + 1, 6, none⟩ (.int .i64 mo)).setCell ⟨w.heap.size + 1, 7, none⟩ (.int .i64 d)).setCell ⟨w.heap.size + 1, 8, none⟩ (.int .i64 h)).setCell ⟨w.heap.size + 1, 9, none⟩ (.int .i64 mi)).setCell ⟨w.heap.size + 1, 10, none⟩ (.int .i64 s)).setCell ⟨w.heap.size + 1, 11, none⟩ (.int .i64 mc)).drew.cell? ⟨w.heap.size + 1, 2, none⟩ = some (.int .u64 b) ∧ ((((((((((((w4.setCell ⟨w.heap.size + 1, 0, none⟩ (.int .i64 k)).setCell ⟨w.heap.size + 1, 1, none⟩ (.int .i64 i)).setCell ⟨w.heap.size + 1, 2, none⟩ (.int .u64 b)).setCell ⟨w.heap.size + 1, 3, none⟩ (.string tx)).setCell ⟨w.heap.size + 1, 4, none⟩ (.bool ng)).setCell ⟨w.heap.size + 1, 5, none⟩ (.int .i64 y)).setCell ⟨w.heap.size + 1, 6, none⟩ (.int .i64 mo)).setCell ⟨w.heap.size + 1, 7, none⟩ (.int .i64 d)).setCell ⟨w.heap.size + 1, 8, none⟩ (.int .i64 h)).setCell ⟨w.heap.size + 1, 9, none⟩ (.int .i64 mi)).setCell ⟨w.heap.size + 1, 10, none⟩ (.int .i64 s)).setCell ⟨w.heap.size + 1, 11, none⟩ (.int .i64 mc)).drew.cell? ⟨w.heap.size + 1, 3, none⟩ = some (.string tx) ∧ ((((((((((((w4.setCell ⟨w.heap.size + 1, 0, none⟩ (.int .i64 k)).setCell ⟨w.heap.size + 1, 1, none⟩ (.int .i64 i)).setCell ⟨w.heap.size + 1, 2, none⟩ (.int .u64 b)).setCell ⟨w.heap.size + 1, 3, none⟩ (.string tx)).setCell ⟨w.heap.size + 1, 4, none⟩ (.bool ng)).setCell ⟨w.heap.size + 1, 5, none⟩ (.int .i64 y)).setCell ⟨w.heap.size + 1, 6, none⟩ (.int .i64 mo)).setCell ⟨w.heap.size + 1, 7, none⟩ (.int .i64 d)).setCell ⟨w.heap.size + 1, 8, none⟩ (.int .i64 h)).setCell ⟨w.heap.size + 1, 9, none⟩ (.int .i64 mi)).setCell ⟨w.heap.size + 1, 10, none⟩ (.int .i64 s)).setCell ⟨w.heap.size + 1, 11, none⟩ (.int .i64 mc)).drew.cell? ⟨w.heap.size + 1, 4, none⟩ = some (.bool ng) ∧ ((((((((((((w4.setCell ⟨w.heap.size + 1, 0, none⟩ (.int .i64 k)).setCell ⟨w.heap.size + 1, 1, none⟩ (.int .i64 i)).setCell ⟨w.heap.size + 1, 2, none⟩ (.int .u64 b)).setCell ⟨w.heap.size + 1, 3, none⟩ (.string tx)).setCell ⟨w.heap.size + 1, 4, none⟩ (.bool ng)).setCell ⟨w.heap.size + 1, 5, none⟩ (.int .i64 y)).setCell ⟨w.heap.size + 1, 6, none⟩ (.int .i64 mo)).setCell ⟨w.heap.size + 1, 7, none⟩ (.int .i64 d)).setCell ⟨w.heap.size + 1, 8, none⟩ (.int .i64 h)).setCell ⟨w.heap.size + 1, 9, none⟩ (.int .i64 mi)).setCell ⟨w.heap.size + 1, 10, none⟩ (.int .i64 s)).setCell ⟨w.heap.size + 1, 11, none⟩ (.int .i64 mc)).drew.cell? ⟨w.heap.size + 1, 5, none⟩ = some (.int .i64 y) ∧ ((((((((((((w4.setCell ⟨w.heap.size + 1, 0, none⟩ (.int .i64 k)).setCell ⟨w.heap.size + 1, 1, none⟩ (.int .i64 i)).setCell ⟨w.heap.size + 1, 2, none⟩ (.int .u64 b)).setCell ⟨w.heap.size + 1, 3, none⟩ (.string tx)).setCell ⟨w.heap.size + 1, 4, none⟩ (.bool ng)).setCell ⟨w.heap.size + 1, 5, none⟩ (.int .i64 y)).setCell ⟨w.heap.size + 1, 6, none⟩ (.int .i64 mo)).setCell ⟨w.heap.size + 1, 7, none⟩ (.int .i64 d)).setCell ⟨w.heap.size + 1, 8, none⟩ (.int .i64 h)).setCell ⟨w.heap.size + 1, 9, none⟩ (.int .i64 mi)).setCell ⟨w.heap.size + 1, 10, none⟩ (.int .i64 s)).setCell ⟨w.heap.size + 1, 11, none⟩ (.int .i64 mc)).drew.cell? ⟨w.heap.size + 1, 6, none⟩ = some (.int .i64 mo) ∧ ((((((((((((w4.setCell ⟨w.heap.size + 1, 0, none⟩ (.int .i64 k)).setCell ⟨w.heap.size + 1, 1, none⟩ (.int .i64 i)).setCell ⟨w.heap.size + 1, 2, none⟩ (.int .u64 b)).setCell ⟨w.heap.size + 1, 3, none⟩ (.string tx)).setCell ⟨w.heap.size + 1, 4, none⟩ (.bool ng)).setCell ⟨w.heap.size + 1, 5, none⟩ (.int .i64 y)).setCell ⟨w.heap.size + 1, 6, none⟩ (.int .i64 mo)).setCell ⟨w.heap.size + 1, 7, none⟩ (.int .i64 d)).setCell ⟨w.heap.size + 1, 8, none⟩ (.int .i64 h)).setCell ⟨w.heap.size + 1, 9, none⟩ (.int .i64 mi)).setCell ⟨w.heap.size + 1, 10, none⟩ (.int .i64 s)).setCell ⟨w.heap.size + 1, 11, none⟩ (.int .i64 mc)).drew.cell? ⟨w.heap.size + 1, 7, none⟩ = some (.int .i64 d) ∧ ((((((((((((w4.setCell ⟨w.heap.size + 1, 0, none⟩ (.int .i64 k)).setCell ⟨w.heap.size + 1, 1, none⟩ (.int .i64 i)).setCell ⟨w.heap.size + 1, 2, none⟩ (.int .u64 b)).setCell ⟨w.heap.size + 1, 3, none⟩ (.string tx)).setCell ⟨w.heap.size + 1, 4, none⟩ (.bool ng)).setCell ⟨w.heap.size + 1, 5, none⟩ (.int .i64 y)).setCell ⟨w.heap.size + 1, 6, none⟩ (.int .i64 mo)).setCell ⟨w.heap.size + 1, 7, none⟩ (.int .i64 d)).setCell ⟨w.heap.size + 1, 8, none⟩ (.int .i64 h)).setCell ⟨w.heap.size + 1, 9, none⟩ (.int .i64 mi)).setCell ⟨w.heap.size + 1, 10, none⟩ (.int .i64 s)).setCell ⟨w.heap.size + 1, 11, none⟩ (.int .i64 mc)).drew.cell? ⟨w.heap.size + 1, 8, none⟩ = some (.int .i64 h) ∧ ((((((((((((w4.setCell ⟨w.heap.size + 1, 0, none⟩ (.int .i64 k)).setCell ⟨w.heap.size + 1, 1, none⟩ (.int .i64 i)).setCell ⟨w.heap.size + 1, 2, none⟩ (.int .u64 b)).setCell ⟨w.heap.size + 1, 3, none⟩ (.string tx)).setCell ⟨w.heap.size + 1, 4, none⟩ (.bool ng)).setCell ⟨w.heap.size + 1, 5, none⟩ (.int .i64 y)).setCell ⟨w.heap.size + 1, 6, none⟩ (.int .i64 mo)).setCell ⟨w.heap.size + 1, 7, none⟩ (.int .i64 d)).setCell ⟨w.heap.size + 1, 8, none⟩ (.int .i64 h)).setCell ⟨w.heap.size + 1, 9, none⟩ (.int .i64 mi)).setCell ⟨w.heap.size + 1, 10, none⟩ (.int .i64 s)).setCell ⟨w.heap.size + 1, 11, none⟩ (.int .i64 mc)).drew.cell? ⟨w.heap.size + 1, 9, none⟩ = some (.int .i64 mi) ∧ ((((((((((((w4.setCell ⟨w.heap.size + 1, 0, none⟩ (.int .i64 k)).setCell ⟨w.heap.size + 1, 1, none⟩ (.int .i64 i)).setCell ⟨w.heap.size + 1, 2, none⟩ (.int .u64 b)).setCell ⟨w.heap.size + 1, 3, none⟩ (.string tx)).setCell ⟨w.heap.size + 1, 4, none⟩ (.bool ng)).setCell ⟨w.heap.size + 1, 5, none⟩ (.int .i64 y)).setCell ⟨w.heap.size + 1, 6, none⟩ (.int .i64 mo)).setCell ⟨w.heap.size + 1, 7, none⟩ (.int .i64 d)).setCell ⟨w.heap.size + 1, 8, none⟩ (.int .i64 h)).setCell ⟨w.heap.size + 1, 9, none⟩ (.int .i64 mi)).setCell ⟨w.heap.size + 1, 10, none⟩ (.int .i64 s)).setCell ⟨w.heap.size + 1, 11, none⟩ (.int .i64 mc)).drew.cell? ⟨w.heap.size + 1, 10, none⟩ = some (.int .i64 s) ∧ ((((((((((((w4.setCell ⟨w.heap.size + 1, 0, none⟩ (.int .i64 k)).setCell ⟨w.heap.size + 1, 1, none⟩ (.int .i64 i)).setCell ⟨w.heap.size + 1, 2, none⟩ (.int .u64 b)).setCell ⟨w.heap.size + 1, 3, none⟩ (.string tx)).setCell ⟨w.heap.size + 1, 4, none⟩ (.bool ng)).setCell ⟨w.heap.size + 1, 5, none⟩ (.int .i64 y)).setCell ⟨w.heap.size + 1, 6, none⟩ (.int .i64 mo)).setCell ⟨w.heap.size + 1, 7, none⟩ (.int .i64 d)).setCell ⟨w.heap.size + 1, 8, none⟩ (.int .i64 h)).setCell ⟨w.heap.size + 1, 9, none⟩ (.int .i64 mi)).setCell ⟨w.heap.size + 1, 10, none⟩ (.int .i64 s)).setCell ⟨w.heap.size + 1, 11, none⟩ (.int .i64 mc)).drew.cell? ⟨w.heap.size + 1, 11, none⟩ = some (.int .i64 mc) from (have q := drew_row1 (rsets12 RV (v0 := .int .i64 k) (v1 := .int .i64 i) (v2 := .int .u64 b) (v3 := .string tx) (v4 := .bool ng) (v5 := .int .i64 y) (v6 := .int .i64 mo) (v7 := .int .i64 d) (v8 := .int .i64 h) (v9 := .int .i64 mi) (v10 := .int .i64 s) (v11 := .int .i64 mc)); ⟨vrow_cell q (j := 0) (v := .int .i64 k) rfl, vrow_cell q (j := 1) (v := .int .i64 i) rfl, vrow_cell q (j := 2) (v := .int .u64 b) rfl, vrow_cell q (j := 3) (v := .string tx) rfl, vrow_cell q (j := 4) (v := .bool ng) rfl, vrow_cell q (j := 5) (v := .int .i64 y) rfl, vrow_cell q (j := 6) (v := .int .i64 mo) rfl, vrow_cell q (j := 7) (v := .int .i64 d) rfl, vrow_cell q (j := 8) (v := .int .i64 h) rfl, vrow_cell q (j := 9) (v := .int .i64 mi) rfl, vrow_cell q (j := 10) (v := .int .i64 s) rfl, vrow_cell q (j := 11) (v := .int .i64 mc) rfl⟩))
  obtain ⟨g0, g1, g2, g3, g4, g5, g6, g7, g8, g9, g10, g11⟩ := (show w4.cell? ⟨w.heap.size + 1, 0, none⟩ = some (.int .i64 k) ∧ w4.cell? ⟨w.heap.size + 1, 1, none⟩ = some (.int .i64 i) ∧ w4.cell? ⟨w.heap.size + 1, 2, none⟩ = some (.int .u64 b) ∧ w4.cell? ⟨w.heap.size + 1, 3, none⟩ = some (.string tx) ∧ w4.cell? ⟨w.heap.size + 1, 4, none⟩ = some (.bool ng) ∧ w4.cell? ⟨w.heap.size + 1, 5, none⟩ = some (.int .i64 y) ∧ w4.cell? ⟨w.heap.size + 1, 6, none⟩ = some (.int .i64 mo) ∧ w4.cell? ⟨w.heap.size + 1, 7, none⟩ = some (.int .i64 d) ∧ w4.cell? ⟨w.heap.size + 1, 8, none⟩ = some (.int .i64 h) ∧ w4.cell? ⟨w.heap.size + 1, 9, none⟩ = some (.int .i64 mi) ∧ w4.cell? ⟨w.heap.size + 1, 10, none⟩ = some (.int .i64 s) ∧ w4.cell? ⟨w.heap.size + 1, 11, none⟩ = some (.int .i64 mc) from ⟨vrow_cell RV (j := 0) (v := .int .i64 k) rfl, vrow_cell RV (j := 1) (v := .int .i64 i) rfl, vrow_cell RV (j := 2) (v := .int .u64 b) rfl, vrow_cell RV (j := 3) (v := .string tx) rfl, vrow_cell RV (j := 4) (v := .bool ng) rfl, vrow_cell RV (j := 5) (v := .int .i64 y) rfl, vrow_cell RV (j := 6) (v := .int .i64 mo) rfl, vrow_cell RV (j := 7) (v := .int .i64 d) rfl, vrow_cell RV (j := 8) (v := .int .i64 h) rfl, vrow_cell RV (j := 9) (v := .int .i64 mi) rfl, vrow_cell RV (j := 10) (v := .int .i64 s) rfl, vrow_cell RV (j := 11) (v := .int .i64 mc) rfl⟩)
  go_region_held3 (fun w' => w'.cell? ⟨w.heap.size + 1, 0, none⟩ = some (.int .i64 k) ∧ w'.cell? ⟨w.heap.size + 1, 1, none⟩ = some (.int .i64 i) ∧ w'.cell? ⟨w.heap.size + 1, 2, none⟩ = some (.int .u64 b) ∧ w'.cell? ⟨w.heap.size + 1, 3, none⟩ = some (.string tx) ∧ w'.cell? ⟨w.heap.size + 1, 4, none⟩ = some (.bool ng) ∧ w'.cell? ⟨w.heap.size + 1, 5, none⟩ = some (.int .i64 y) ∧ w'.cell? ⟨w.heap.size + 1, 6, none⟩ = some (.int .i64 mo) ∧ w'.cell? ⟨w.heap.size + 1, 7, none⟩ = some (.int .i64 d) ∧ w'.cell? ⟨w.heap.size + 1, 8, none⟩ = some (.int .i64 h) ∧ w'.cell? ⟨w.heap.size + 1, 9, none⟩ = some (.int .i64 mi) ∧ w'.cell? ⟨w.heap.size + 1, 10, none⟩ = some (.int .i64 s) ∧ w'.cell? ⟨w.heap.size + 1, 11, none⟩ = some (.int .i64 mc)) (first | with_reducible exact unhide HS0 | with_reducible exact unhide HS1 | go_keep) (fail)
  go_wp2_with fail
  refine bodyPost_ret (results_row_tmp2 rfl _ _ (w.heap.size + 1) _ rfl (run_loadVar_row _ (w.heap.size + 1) _ _ _ _ _ (drew_row1 (rsets12 RV)) Tryz.underlying38 rfl (unhide SV))) rfl ?_
  have B5 := (((unhide P4).set (rsets12 RV (v0 := .int .i64 k) (v1 := .int .i64 i) (v2 := .int .u64 b) (v3 := .string tx) (v4 := .bool ng) (v5 := .int .i64 y) (v6 := .int .i64 mo) (v7 := .int .i64 d) (v8 := .int .i64 h) (v9 := .int .i64 mi) (v10 := .int .i64 s) (v11 := .int .i64 mc)) gsets12).later (below_drew _)).bl
  exact ⟨lo, bn - NN, lc, rfl, (unhide HLB).later B5, unhide HOB, B5⟩

set_option maxHeartbeats 4000000 in
set_option maxRecDepth 100000 in
theorem hasNull_any (ao : Option Addr) (n c : Nat) (l : List Int) (i : Nat) (w : World) (h : Bs w ao n c l) (hi : (i + 2) / 8 < n) (hi2 : i ≤ 100000) :
    Calls Tryz.prog 24 #[.slice ao n c, .int .i64 (i : Int)] w fun e w' => e = .returned (.bool (bit l (i + 2))) ∧ w' = w := by
  have hq2 : (i + 2) / 8 ≤ 100000 := by omega
  obtain ⟨z1, z2⟩ := w64_small hq2
  obtain ⟨b, o, hix, hcx⟩ := h.idx hi (((i + 2) / 8 : Nat) : Int) rfl
  have hg := bit_get h.byt (i + 2)
  have hB := h.byt.at ((i + 2) / 8)
  have e1 := div8 i
  have e2 := mod8 i
  have hr : (i + 2) % 8 < 8 := Nat.mod_lt _ (by decide)
  generalize bit l (i + 2) = BT at *
  generalize (i + 2) / 8 = q at *
  generalize (i + 2) % 8 = r at hr e2 hg
  generalize l[q]?.getD 0 = X at *
  obtain ⟨R, hR⟩ : ∃ z : Int, z = (r : Int) := ⟨_, rfl⟩
  rw [← hR] at e2
  have hr' : (R = 0 ∧ r = 0) ∨ (R = 1 ∧ r = 1) ∨ (R = 2 ∧ r = 2) ∨ (R = 3 ∧ r = 3) ∨ (R = 4 ∧ r = 4) ∨ (R = 5 ∧ r = 5) ∨ (R = 6 ∧ r = 6) ∨ (R = 7 ∧ r = 7) := by
    clear e1 e2 z1 z2 hg hix hcx hB
    omega
  clear hr hR h
  rcases hr' with ⟨rfl, rfl⟩ | ⟨rfl, rfl⟩ | ⟨rfl, rfl⟩ | ⟨rfl, rfl⟩ | ⟨rfl, rfl⟩ | ⟨rfl, rfl⟩ | ⟨rfl, rfl⟩ | ⟨rfl, rfl⟩ <;> cases BT
  all_goals
    simp only [Int.reducePow, Int.ediv_one, if_true, Bool.false_eq_true, reduceIte] at hg
    go_enter Tryz.func24, Tryz.ntmps24
    go_wp2_with fail
    go_ret
    exact ⟨rfl, rfl⟩


end Go.Proofs.YtkcblnojgonblaaGreatDoor
