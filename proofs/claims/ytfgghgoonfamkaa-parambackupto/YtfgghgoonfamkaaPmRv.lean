/-
  What readValue of package param returns: a value, what is left behind it, the error. It writes nothing that was there. Conditions: the slice can be read, at most 100,000 bytes; the type is a byte.
-/
import Derived.Test.YtfgghgoonfamkaaPmRd1
import Derived.Deep.RegionHeld3
namespace Go.Proofs.Ytfgghgoonfamkaa
open Go.RowKit
set_option linter.unusedVariables false
set_option linter.unusedSimpArgs false

theorem rsets12 {w : World} {g : Nat} {T : TypeId} {z0 z1 z2 z3 z4 z5 z6 z7 z8 z9 z10 z11 v0 v1 v2 v3 v4 v5 v6 v7 v8 v9 v10 v11 : Value} (h : w.heap[g]? = some (.cells #[z0, z1, z2, z3, z4, z5, z6, z7, z8, z9, z10, z11] T (0, 0))) : ((((((((((((w.setCell ⟨g, 0, none⟩ v0).setCell ⟨g, 1, none⟩ v1).setCell ⟨g, 2, none⟩ v2).setCell ⟨g, 3, none⟩ v3).setCell ⟨g, 4, none⟩ v4).setCell ⟨g, 5, none⟩ v5).setCell ⟨g, 6, none⟩ v6).setCell ⟨g, 7, none⟩ v7).setCell ⟨g, 8, none⟩ v8).setCell ⟨g, 9, none⟩ v9).setCell ⟨g, 10, none⟩ v10).setCell ⟨g, 11, none⟩ v11).heap[g]? = some (.cells #[v0, v1, v2, v3, v4, v5, v6, v7, v8, v9, v10, v11] T (0, 0)) := by
  have h0 : (w.setCell ⟨g, 0, none⟩ v0).heap[g]? = some (.cells #[v0, z1, z2, z3, z4, z5, z6, z7, z8, z9, z10, z11] T (0, 0)) := heap_setCell_same _ g 0 _ _ _ h
  have h1 : ((w.setCell ⟨g, 0, none⟩ v0).setCell ⟨g, 1, none⟩ v1).heap[g]? = some (.cells #[v0, v1, z2, z3, z4, z5, z6, z7, z8, z9, z10, z11] T (0, 0)) := heap_setCell_same _ g 1 _ _ _ h0
  have h2 : (((w.setCell ⟨g, 0, none⟩ v0).setCell ⟨g, 1, none⟩ v1).setCell ⟨g, 2, none⟩ v2).heap[g]? = some (.cells #[v0, v1, v2, z3, z4, z5, z6, z7, z8, z9, z10, z11] T (0, 0)) := heap_setCell_same _ g 2 _ _ _ h1
  have h3 : ((((w.setCell ⟨g, 0, none⟩ v0).setCell ⟨g, 1, none⟩ v1).setCell ⟨g, 2, none⟩ v2).setCell ⟨g, 3, none⟩ v3).heap[g]? = some (.cells #[v0, v1, v2, v3, z4, z5, z6, z7, z8, z9, z10, z11] T (0, 0)) := heap_setCell_same _ g 3 _ _ _ h2
  have h4 : (((((w.setCell ⟨g, 0, none⟩ v0).setCell ⟨g, 1, none⟩ v1).setCell ⟨g, 2, none⟩ v2).setCell ⟨g, 3, none⟩ v3).setCell ⟨g, 4, none⟩ v4).heap[g]? = some (.cells #[v0, v1, v2, v3, v4, z5, z6, z7, z8, z9, z10, z11] T (0, 0)) := heap_setCell_same _ g 4 _ _ _ h3
  have h5 : ((((((w.setCell ⟨g, 0, none⟩ v0).setCell ⟨g, 1, none⟩ v1).setCell ⟨g, 2, none⟩ v2).setCell ⟨g, 3, none⟩ v3).setCell ⟨g, 4, none⟩ v4).setCell ⟨g, 5, none⟩ v5).heap[g]? = some (.cells #[v0, v1, v2, v3, v4, v5, z6, z7, z8, z9, z10, z11] T (0, 0)) := heap_setCell_same _ g 5 _ _ _ h4
  have h6 : (((((((w.setCell ⟨g, 0, none⟩ v0).setCell ⟨g, 1, none⟩ v1).setCell ⟨g, 2, none⟩ v2).setCell ⟨g, 3, none⟩ v3).setCell ⟨g, 4, none⟩ v4).setCell ⟨g, 5, none⟩ v5).setCell ⟨g, 6, none⟩ v6).heap[g]? = some (.cells #[v0, v1, v2, v3, v4, v5, v6, z7, z8, z9, z10, z11] T (0, 0)) := heap_setCell_same _ g 6 _ _ _ h5
  have h7 : ((((((((w.setCell ⟨g, 0, none⟩ v0).setCell ⟨g, 1, none⟩ v1).setCell ⟨g, 2, none⟩ v2).setCell ⟨g, 3, none⟩ v3).setCell ⟨g, 4, none⟩ v4).setCell ⟨g, 5, none⟩ v5).setCell ⟨g, 6, none⟩ v6).setCell ⟨g, 7, none⟩ v7).heap[g]? = some (.cells #[v0, v1, v2, v3, v4, v5, v6, v7, z8, z9, z10, z11] T (0, 0)) := heap_setCell_same _ g 7 _ _ _ h6
  have h8 : (((((((((w.setCell ⟨g, 0, none⟩ v0).setCell ⟨g, 1, none⟩ v1).setCell ⟨g, 2, none⟩ v2).setCell ⟨g, 3, none⟩ v3).setCell ⟨g, 4, none⟩ v4).setCell ⟨g, 5, none⟩ v5).setCell ⟨g, 6, none⟩ v6).setCell ⟨g, 7, none⟩ v7).setCell ⟨g, 8, none⟩ v8).heap[g]? = some (.cells #[v0, v1, v2, v3, v4, v5, v6, v7, v8, z9, z10, z11] T (0, 0)) := heap_setCell_same _ g 8 _ _ _ h7
  have h9 : ((((((((((w.setCell ⟨g, 0, none⟩ v0).setCell ⟨g, 1, none⟩ v1).setCell ⟨g, 2, none⟩ v2).setCell ⟨g, 3, none⟩ v3).setCell ⟨g, 4, none⟩ v4).setCell ⟨g, 5, none⟩ v5).setCell ⟨g, 6, none⟩ v6).setCell ⟨g, 7, none⟩ v7).setCell ⟨g, 8, none⟩ v8).setCell ⟨g, 9, none⟩ v9).heap[g]? = some (.cells #[v0, v1, v2, v3, v4, v5, v6, v7, v8, v9, z10, z11] T (0, 0)) := heap_setCell_same _ g 9 _ _ _ h8
  have h10 : (((((((((((w.setCell ⟨g, 0, none⟩ v0).setCell ⟨g, 1, none⟩ v1).setCell ⟨g, 2, none⟩ v2).setCell ⟨g, 3, none⟩ v3).setCell ⟨g, 4, none⟩ v4).setCell ⟨g, 5, none⟩ v5).setCell ⟨g, 6, none⟩ v6).setCell ⟨g, 7, none⟩ v7).setCell ⟨g, 8, none⟩ v8).setCell ⟨g, 9, none⟩ v9).setCell ⟨g, 10, none⟩ v10).heap[g]? = some (.cells #[v0, v1, v2, v3, v4, v5, v6, v7, v8, v9, v10, z11] T (0, 0)) := heap_setCell_same _ g 10 _ _ _ h9
  have h11 : ((((((((((((w.setCell ⟨g, 0, none⟩ v0).setCell ⟨g, 1, none⟩ v1).setCell ⟨g, 2, none⟩ v2).setCell ⟨g, 3, none⟩ v3).setCell ⟨g, 4, none⟩ v4).setCell ⟨g, 5, none⟩ v5).setCell ⟨g, 6, none⟩ v6).setCell ⟨g, 7, none⟩ v7).setCell ⟨g, 8, none⟩ v8).setCell ⟨g, 9, none⟩ v9).setCell ⟨g, 10, none⟩ v10).setCell ⟨g, 11, none⟩ v11).heap[g]? = some (.cells #[v0, v1, v2, v3, v4, v5, v6, v7, v8, v9, v10, v11] T (0, 0)) := heap_setCell_same _ g 11 _ _ _ h10
  exact h11
theorem gsets12 {w : World} {g : Nat} {v0 v1 v2 v3 v4 v5 v6 v7 v8 v9 v10 v11 : Value} : Gb g w ((((((((((((w.setCell ⟨g, 0, none⟩ v0).setCell ⟨g, 1, none⟩ v1).setCell ⟨g, 2, none⟩ v2).setCell ⟨g, 3, none⟩ v3).setCell ⟨g, 4, none⟩ v4).setCell ⟨g, 5, none⟩ v5).setCell ⟨g, 6, none⟩ v6).setCell ⟨g, 7, none⟩ v7).setCell ⟨g, 8, none⟩ v8).setCell ⟨g, 9, none⟩ v9).setCell ⟨g, 10, none⟩ v10).setCell ⟨g, 11, none⟩ v11) := (((((((((((((Gb.refl g w).set 0 v0).set 1 v1).set 2 v2).set 3 v3).set 4 v4).set 5 v5).set 6 v6).set 7 v7).set 8 v8).set 9 v9).set 10 v10).set 11 v11)

theorem rdV_er {b : List Int} {t : Int} {un : Bool} (h : (rdV b t un).2.2 ≠ 0) : rdV b t un = (va0, 0, (rdV b t un).2.2) := by
  unfold rdV at h ⊢
  split
  · rfl
  · rename_i q
    rw [if_neg q] at h
    split
    · rfl
    · rename_i q2
      rw [if_neg q2] at h
      exact absurd rfl h
theorem rdV_bd {b : List Int} {t : Int} {un : Bool} (hb : Byt b) (hl : b.length ≤ 100000) : 0 ≤ (rdV b t un).2.1 ∧ (rdV b t un).2.1 ≤ b.length := by
  by_cases h : (rdV b t un).2.2 = 0
  · obtain ⟨_, _, _, h4, h5⟩ := rdV_ok hb hl h
    omega
  · rw [rdV_er h]
    exact ⟨Int.le_refl _, by show (0 : Int) ≤ _; omega⟩
/-- What is left behind a value. -/
def rdL (b : List Int) (t : Int) (un : Bool) : List Int := b.drop (rdV b t un).2.1.toNat

theorem drew_row1 {w : World} {g : Nat} {o : Obj} (h : w.heap[g]? = some o) : w.drew.heap[g]? = some o := h


/-- A value, what is left, the error. -/
def rvP (b : List Int) (t : Int) (un : Bool) : Va × List Int × Int := if t = 6 then (va0, [], 5) else if (rdV b t un).2.2 ≠ 0 then (va0, [], (rdV b t un).2.2) else ((rdV b t un).1, rdL b t un, 0)
def OutV (w : World) (bo : Option Addr) (bn bc : Nat) (b : List Int) (R : Va × List Int × Int) (e : Ending) (w' : World) : Prop := ∃ lo ln lc, e = .returned (.tuple #[.agg (vaC R.1), .slice lo ln lc, .int .i64 R.2.2]) ∧ Cut bo bn bc b lo ln lc R.2.1 ∧ Below w.heap.size w w'

set_option maxHeartbeats 4000000 in
set_option maxRecDepth 100000 in
theorem preadValue_any (bo : Option Addr) (bn bc : Nat) (b : List Int) (t : Int) (un : Bool) (w : World) (q0 : 0 ≤ t) (q1 : t < 256) (hb : Bs w bo bn bc b) (hn : bn ≤ 100000) :
    Calls Try.prog 48 #[.slice bo bn bc, .agg #[.int .u8 t, .bool un]] w fun e w' => OutV w bo bn bc b (rvP b t un) e w' := by
  obtain ⟨RES, hRES⟩ : ∃ z, z = rvP b t un := ⟨_, rfl⟩
  rw [← hRES]
  unfold rvP at hRES
  have P0 := Pz.new w t un (vaC va0)
  obtain ⟨w2, hw2⟩ : ∃ z, z = (w.alloc (.cells #[.int .u8 t, .bool un] 27)).alloc (.cells (vaC va0) 32) := ⟨_, rfl⟩
  rw [← hw2] at P0
  have cR := hide (read_any bo bn bc b t un w2 q0 q1 (hb.later P0.bl))
  have HW := hide (show (w.alloc (.cells #[.int .u8 t, .bool un] 27)).alloc (.cells #[.int .i64 0, .int .i64 0, .int .u64 0, .string ⟨#[]⟩, .bool false, .int .i64 0, .int .i64 0, .int .i64 0, .int .i64 0, .int .i64 0, .int .i64 0, .int .i64 0] 32) = w2 from hw2.symm)
  have PP := hide P0
  have hbl := hb.len
  have hbm := hb.max
  have hbe := hb.le
  obtain ⟨n0, n1⟩ := rdV_bd (t := t) (un := un) hb.byt (by omega)
  obtain ⟨lo, lc, hcut, hlb⟩ := Bs.cutl2 bo bn bc b (lo := (rdV b t un).2.1.toNat) (by omega) (rdV b t un).2.1 (by omega)
  have HLB := hide (show Cut bo bn bc b lo (bn - (rdV b t un).2.1.toNat) lc (rdL b t un) from hlb)
  obtain ⟨t0, t1⟩ := P0.cells
  have S0 := hide (show (Try.prog.info? 32).map (·.size) = some (#[.int .i64 0, .int .i64 0, .int .u64 0, .string ⟨#[]⟩, .bool false, .int .i64 0, .int .i64 0, .int .i64 0, .int .i64 0, .int .i64 0, .int .i64 0, .int .i64 0] : Array Value).size from vaC_size va0)
  have O0 := hide (show (#[.int .i64 0, .int .i64 0, .int .u64 0, .string ⟨#[]⟩, .bool false, .int .i64 0, .int .i64 0, .int .i64 0, .int .i64 0, .int .i64 0, .int .i64 0, .int .i64 0] : Array Value).all (·.oneCell') = true from vaC_one va0)
  by_cases h6 : t = 6
  · have HR := hide (show RES = (va0, [], 5) by rw [hRES, if_pos h6])
    subst h6
    clear hRES hb hlb hcut n0 n1 cR HLB hw2 P0
    go_enter Try.func48, Try.ntmps48
    go_wp2_with (first | (with_reducible show wpList Try.prog _ _ (Oper.mk _ (Op.store 32 _ _) _ _ _ none :: _) _ _; refine wpList_stG rfl _ (.tmp 4) (.tmp 11) rfl (w.heap.size + 1) #[.int .i64 0, .int .i64 0, .int .u64 0, .string ⟨#[]⟩, .bool false, .int .i64 0, .int .i64 0, .int .i64 0, .int .i64 0, .int .i64 0, .int .i64 0, .int .i64 0] (vaC va0) (by simp [Act.eval, Act.put]) (by simp [Act.eval, Act.put]) (unhide PP).rr (unhide S0) rfl (unhide O0) ?_; intro w4 r4 g4 s4; have P4 := hide ((unhide PP).set r4 g4); clear r4 g4 s4) | (rw [unhide HW]))
    refine bodyPost_ret (results_row_tmp2 rfl _ _ (w.heap.size + 1) _ rfl (run_loadVar_row _ (w.heap.size + 1) _ _ _ _ _ (unhide P4).rr Try.underlying32 rfl (unhide S0))) rfl ?_
    rw [unhide HR]
    exact ⟨none, 0, 0, rfl, cut_nil _ _ _ _, (unhide P4).bl⟩
  rw [if_neg h6] at hRES
  have g6 : (t == 6) = false := by simpa using h6
  clear hw2 P0 hb hlb q0 q1 h6
  generalize rdL b t un = LL at *
  obtain ⟨R, hR⟩ : ∃ z, z = rdV b t un := ⟨_, rfl⟩
  rw [← hR] at cR n0 n1 hcut HLB hRES
  clear hR
  obtain ⟨V, N, E⟩ := R
  simp only at cR n0 n1 hcut HLB hRES
  have SV := hide (vaC_size V)
  have OV := hide (vaC_one V)
  generalize N.toNat = NN at *
  have HR0 := hide hRES
  clear hRES
  by_cases hE : E ≠ 0
  · have HR := hide (show RES = (va0, [], E) by rw [unhide HR0, if_pos hE])
    have gE : (E != 0) = true := by simpa using hE
    clear hcut HLB hE HR0
    go_enter Try.func48, Try.ntmps48
    go_wp2_with (first | (go_at_call 61; rw [unhide HW]; (with_reducible refine (unhide cR).mono ?_); rintro e w3 ⟨rfl, b3⟩; have PP := hide ((unhide PP).later b3); clear t0 t1; obtain ⟨t0, t1⟩ := (unhide PP).cells; clear b3) | (with_reducible show wpList Try.prog _ _ (Oper.mk _ (Op.store 32 _ _) _ _ _ none :: _) _ _; refine wpList_stG rfl _ (.tmp 4) (.tmp 16) rfl (w.heap.size + 1) (vaC V) (vaC va0) (by simp [Act.eval, Act.put]) (by simp [Act.eval, Act.put]) (unhide PP).rr (unhide SV) rfl (unhide OV) ?_; intro w4 r4 g4 s4; have P4 := hide ((unhide PP).set r4 g4); clear r4 g4 s4) | (with_reducible show wpList Try.prog _ _ (Oper.mk _ (Op.store 32 _ _) _ _ _ none :: _) _ _; refine wpList_stG rfl _ (.tmp 4) (.tmp 21) rfl (w.heap.size + 1) #[.int .i64 0, .int .i64 0, .int .u64 0, .string ⟨#[]⟩, .bool false, .int .i64 0, .int .i64 0, .int .i64 0, .int .i64 0, .int .i64 0, .int .i64 0, .int .i64 0] (vaC V) (by simp [Act.eval, Act.put]) (by simp [Act.eval, Act.put]) (unhide P4).rr (unhide S0) rfl (unhide O0) ?_; intro w5 r5 g5 s5; have P5 := hide ((unhide P4).set r5 g5); clear r5 g5 s5))
    refine bodyPost_ret (results_row_tmp2 rfl _ _ (w.heap.size + 1) _ rfl (run_loadVar_row _ (w.heap.size + 1) _ _ _ _ _ (unhide P5).rr Try.underlying32 rfl (unhide S0))) rfl ?_
    rw [unhide HR]
    exact ⟨none, 0, 0, rfl, cut_nil _ _ _ _, (unhide P5).bl⟩
  · have HR := hide (show RES = (V, LL, 0) by rw [unhide HR0, if_neg hE])
    have hE := Classical.not_not.1 hE
    subst hE
    clear HR0
    go_enter Try.func48, Try.ntmps48
    go_upto_region 6 with (first | (go_at_call 61; rw [unhide HW]; (with_reducible refine (unhide cR).mono ?_); rintro e w3 ⟨rfl, b3⟩; have PP := hide ((unhide PP).later b3); clear t0 t1; obtain ⟨t0, t1⟩ := (unhide PP).cells; clear b3) | (with_reducible show wpList Try.prog _ _ (Oper.mk _ (Op.store 32 _ _) _ _ _ none :: _) _ _; refine wpList_stG rfl _ (.tmp 4) (.tmp 16) rfl (w.heap.size + 1) (vaC V) (vaC va0) (by simp [Act.eval, Act.put]) (by simp [Act.eval, Act.put]) (unhide PP).rr (unhide SV) rfl (unhide OV) ?_; intro w4 r4 g4 s4; have P4 := hide ((unhide PP).set r4 g4); clear r4 g4 s4))
    clear cR HW PP
    obtain ⟨k, i, b, tx, ⟨ng, y, mo, d, h, mi, s, mc⟩⟩ := V
    unfold vaC at SV OV P4
    simp only at SV OV P4
    have RV := (unhide P4).rr
    have uf0 := frozen_of_row _ _ 0 _ _ (unhide P4).rr
    have uf1 := frozen_of_row _ _ 1 _ _ (unhide P4).rr
    have uf2 := frozen_of_row _ _ 2 _ _ (unhide P4).rr
    have uf3 := frozen_of_row _ _ 3 _ _ (unhide P4).rr
    have uf4 := frozen_of_row _ _ 4 _ _ (unhide P4).rr
    have uf5 := frozen_of_row _ _ 5 _ _ (unhide P4).rr
    have uf6 := frozen_of_row _ _ 6 _ _ (unhide P4).rr
    have uf7 := frozen_of_row _ _ 7 _ _ (unhide P4).rr
    have uf8 := frozen_of_row _ _ 8 _ _ (unhide P4).rr
    have uf9 := frozen_of_row _ _ 9 _ _ (unhide P4).rr
    have uf10 := frozen_of_row _ _ 10 _ _ (unhide P4).rr
    have uf11 := frozen_of_row _ _ 11 _ _ (unhide P4).rr
    have HS0 := hide (show w4.drew.cell? ⟨w.heap.size + 1, 0, none⟩ = some (.int .i64 k) ∧ w4.drew.cell? ⟨w.heap.size + 1, 1, none⟩ = some (.int .i64 i) ∧ w4.drew.cell? ⟨w.heap.size + 1, 2, none⟩ = some (.int .u64 b) ∧ w4.drew.cell? ⟨w.heap.size + 1, 3, none⟩ = some (.string tx) ∧ w4.drew.cell? ⟨w.heap.size + 1, 4, none⟩ = some (.bool ng) ∧ w4.drew.cell? ⟨w.heap.size + 1, 5, none⟩ = some (.int .i64 y) ∧ w4.drew.cell? ⟨w.heap.size + 1, 6, none⟩ = some (.int .i64 mo) ∧ w4.drew.cell? ⟨w.heap.size + 1, 7, none⟩ = some (.int .i64 d) ∧ w4.drew.cell? ⟨w.heap.size + 1, 8, none⟩ = some (.int .i64 h) ∧ w4.drew.cell? ⟨w.heap.size + 1, 9, none⟩ = some (.int .i64 mi) ∧ w4.drew.cell? ⟨w.heap.size + 1, 10, none⟩ = some (.int .i64 s) ∧ w4.drew.cell? ⟨w.heap.size + 1, 11, none⟩ = some (.int .i64 mc) from ⟨vrow_cell RV (j := 0) (v := .int .i64 k) rfl, vrow_cell RV (j := 1) (v := .int .i64 i) rfl, vrow_cell RV (j := 2) (v := .int .u64 b) rfl, vrow_cell RV (j := 3) (v := .string tx) rfl, vrow_cell RV (j := 4) (v := .bool ng) rfl, vrow_cell RV (j := 5) (v := .int .i64 y) rfl, vrow_cell RV (j := 6) (v := .int .i64 mo) rfl, vrow_cell RV (j := 7) (v := .int .i64 d) rfl, vrow_cell RV (j := 8) (v := .int .i64 h) rfl, vrow_cell RV (j := 9) (v := .int .i64 mi) rfl, vrow_cell RV (j := 10) (v := .int .i64 s) rfl, vrow_cell RV (j := 11) (v := .int .i64 mc) rfl⟩)
    have HS1 := hide (show ((((((((((((w4.setCell ⟨w.heap.size + 1, 0, none⟩ (.int .i64 k)).setCell ⟨w.heap.size + 1, 1, none⟩ (.int .i64 i)).setCell ⟨w.heap.size + 1, 2, none⟩ (.int .u64 b)).setCell ⟨w.heap.size + 1, 3, none⟩ (.string tx)).setCell ⟨w.heap.size + 1, 4, none⟩ (.bool ng)).setCell ⟨w.heap.size + 1, 5, none⟩ (.int .i64 y)).setCell ⟨w.heap.size + 1, 6, none⟩ (.int .i64 mo)).setCell ⟨w.heap.size + 1, 7, none⟩ (.int .i64 d)).setCell ⟨w.heap.size + 1, 8, none⟩ (.int .i64 h)).setCell ⟨w.heap.size + 1, 9, none⟩ (.int .i64 mi)).setCell ⟨w.heap.size + 1, 10, none⟩ (.int .i64 s)).setCell ⟨w.heap.size + 1, 11, none⟩ (.int .i64 mc)).drew.cell? ⟨w.heap.size + 1, 0, none⟩ = some (.int .i64 k) ∧ ((((((((((((w4.setCell ⟨w.heap.size + 1, 0, none⟩ (.int .i64 k)).setCell ⟨w.heap.size + 1, 1, none⟩ (.int .i64 i)).setCell ⟨w.heap.size + 1, 2, none⟩ (.int .u64 b)).setCell ⟨w.heap.size + 1, 3, none⟩ (.string tx)).setCell ⟨w.heap.size + 1, 4, none⟩ (.bool ng)).setCell ⟨w.heap.size + 1, 5, none⟩ (.int .i64 y)).setCell ⟨w.heap.size + 1, 6, none⟩ (.int .i64 mo)).setCell ⟨w.heap.size + 1, 7, none⟩ (.int .i64 d)).setCell ⟨w.heap.size + 1, 8, none⟩ (.int .i64 h)).setCell ⟨w.heap.size + 1, 9, none⟩ (.int .i64 mi)).setCell ⟨w.heap.size + 1, 10, none⟩ (.int .i64 s)).setCell ⟨w.heap.size + 1, 11, none⟩ (.int .i64 mc)).drew.cell? ⟨w.heap.size + 1, 1, none⟩ = some (.int .i64 i) ∧ ((((((((((((w4.setCell ⟨w.heap.size + 1, 0, none⟩ (.int .i64 k)).setCell ⟨w.heap.size + 1, 1, none⟩ (.int .i64 i)).setCell ⟨w.heap.size + 1, 2, none⟩ (.int .u64 b)).setCell ⟨w.heap.size + 1, 3, none⟩ (.string tx)).setCell ⟨w.heap.size + 1, 4, none⟩ (.bool ng)).setCell ⟨w.heap.size + 1, 5, none⟩ (.int .i64 y)).setCell ⟨w.heap.size + 1, 6, none⟩ (.int .i64 mo)).setCell ⟨w.heap.size + 1, 7, none⟩ (.int .i64 d)).setCell ⟨w.heap.size + 1, 8, none⟩ (.int .i64 h)).setCell ⟨w.heap.size + 1, 9, none⟩ (.int .i64 mi)).setCell ⟨w.heap.size + 1, 10, none⟩ (.int .i64 s)).setCell ⟨w.heap.size + 1, 11, none⟩ (.int .i64 mc)).drew.cell? ⟨w.heap.size + 1, 2, none⟩ = some (.int .u64 b) ∧ ((((((((((((w4.setCell ⟨w.heap.size + 1, 0, none⟩ (.int .i64 k)).setCell ⟨w.heap.size + 1, 1, none⟩ (.int .i64 i)).setCell ⟨w.heap.size + 1, 2, none⟩ (.int .u64 b)).setCell ⟨w.heap.size + 1, 3, none⟩ (.string tx)).setCell ⟨w.heap.size + 1, 4, none⟩ (.bool ng)).setCell ⟨w.heap.size + 1, 5, none⟩ (.int .i64 y)).setCell ⟨w.heap.size + 1, 6, none⟩ (.int .i64 mo)).setCell ⟨w.heap.size + 1, 7, none⟩ (.int .i64 d)).setCell ⟨w.heap.size + 1, 8, none⟩ (.int .i64 h)).setCell ⟨w.heap.size + 1, 9, none⟩ (.int .i64 mi)).setCell ⟨w.heap.size + 1, 10, none⟩ (.int .i64 s)).setCell ⟨w.heap.size + 1, 11, none⟩ (.int .i64 mc)).drew.cell? ⟨w.heap.size + 1, 3, none⟩ = some (.string tx) ∧ ((((((((((((w4.setCell ⟨w.heap.size + 1, 0, none⟩ (.int .i64 k)).setCell ⟨w.heap.size + 1, 1, none⟩ (.int .i64 i)).setCell ⟨w.heap.size + 1, 2, none⟩ (.int .u64 b)).setCell ⟨w.heap.size + 1, 3, none⟩ (.string tx)).setCell ⟨w.heap.size + 1, 4, none⟩ (.bool ng)).setCell ⟨w.heap.size + 1, 5, none⟩ (.int .i64 y)).setCell ⟨w.heap.size + 1, 6, none⟩ (.int .i64 mo)).setCell ⟨w.heap.size + 1, 7, none⟩ (.int .i64 d)).setCell ⟨w.heap.size + 1, 8, none⟩ (.int .i64 h)).setCell ⟨w.heap.size + 1, 9, none⟩ (.int .i64 mi)).setCell ⟨w.heap.size + 1, 10, none⟩ (.int .i64 s)).setCell ⟨w.heap.size + 1, 11, none⟩ (.int .i64 mc)).drew.cell? ⟨w.heap.size + 1, 4, none⟩ = some (.bool ng) ∧ ((((((((((((w4.setCell ⟨w.heap.size + 1, 0, none⟩ (.int .i64 k)).setCell ⟨w.heap.size + 1, 1, none⟩ (.int .i64 i)).setCell ⟨w.heap.size + 1, 2, none⟩ (.int .u64 b)).setCell ⟨w.heap.size + 1, 3, none⟩ (.string tx)).setCell ⟨w.heap.size + 1, 4, none⟩ (.bool ng)).setCell ⟨w.heap.size + 1, 5, none⟩ (.int .i64 y)).setCell ⟨w.heap.size + 1, 6, none⟩ (.int .i64 mo)).setCell ⟨w.heap.size + 1, 7, none⟩ (.int .i64 d)).setCell ⟨w.heap.size + 1, 8, none⟩ (.int .i64 h)).setCell ⟨w.heap.size + 1, 9, none⟩ (.int .i64 mi)).setCell ⟨w.heap.size + 1, 10, none⟩ (.int .i64 s)).setCell ⟨w.heap.size + 1, 11, none⟩ (.int .i64 mc)).drew.cell? ⟨w.heap.size + 1, 5, none⟩ = some (.int .i64 y) ∧ ((((((((((((w4.setCell ⟨w.heap.size + 1, 0, none⟩ (.int .i64 k)).setCell ⟨w.heap.size + 1, 1, none⟩ (.int .i64 i)).setCell ⟨w.heap.size + 1, 2, none⟩ (.int .u64 b)).setCell ⟨w.heap.size + 1, 3, none⟩ (.string tx)).setCell ⟨w.heap.size + 1, 4, none⟩ (.bool ng)).setCell ⟨w.heap.size + 1, 5, none⟩ (.int .i64 y)).setCell ⟨w.heap.size + 1, 6, none⟩ (.int .i64 mo)).setCell ⟨w.heap.size + 1, 7, none⟩ (.int .i64 d)).setCell ⟨w.heap.size + 1, 8, none⟩ (.int .i64 h)).setCell ⟨w.heap.size + 1, 9, none⟩ (.int .i64 mi)).setCell ⟨w.heap.size + 1, 10, none⟩ (.int .i64 s)).setCell ⟨w.heap.size + 1, 11, none⟩ (.int .i64 mc)).drew.cell? ⟨w.heap.size + 1, 6, none⟩ = some (.int .i64 mo) ∧ ((((((((((((w4.setCell ⟨w.heap.size + 1, 0, none⟩ (.int .i64 k)).setCell ⟨w.heap.size + 1, 1, none⟩ (.int .i64 i)).setCell ⟨w.heap.size + 1, 2, none⟩ (.int .u64 b)).setCell ⟨w.heap.size + 1, 3, none⟩ (.string tx)).setCell ⟨w.heap.size + 1, 4, none⟩ (.bool ng)).setCell ⟨w.heap.size + 1, 5, none⟩ (.int .i64 y)).setCell ⟨w.heap.size + 1, 6, none⟩ (.int .i64 mo)).setCell ⟨w.heap.size + 1, 7, none⟩ (.int .i64 d)).setCell ⟨w.heap.size + 1, 8, none⟩ (.int .i64 h)).setCell ⟨w.heap.size + 1, 9, none⟩ (.int .i64 mi)).setCell ⟨w.heap.size + 1, 10, none⟩ (.int .i64 s)).setCell ⟨w.heap.size + 1, 11, none⟩ (.int .i64 mc)).drew.cell? ⟨w.heap.size + 1, 7, none⟩ = some (.int .i64 d) ∧ ((((((((((((w4.setCell ⟨w.heap.size + 1, 0, none⟩ (.int .i64 k)).setCell ⟨w.heap.size + 1, 1, none⟩ (.int .i64 i)).setCell ⟨w.heap.size + 1, 2, none⟩ (.int .u64 b)).setCell ⟨w.heap.size + 1, 3, none⟩ (.string tx)).setCell ⟨w.heap.size + 1, 4, none⟩ (.bool ng)).setCell ⟨w.heap.size + 1, 5, none⟩ (.int .i64 y)).setCell ⟨w.heap.size + 1, 6, none⟩ (.int .i64 mo)).setCell ⟨w.heap.size + 1, 7, none⟩ (.int .i64 d)).setCell ⟨w.heap.size + 1, 8, none⟩ (.int .i64 h)).setCell ⟨w.heap.size + 1, 9, none⟩ (.int .i64 mi)).setCell ⟨w.heap.size + 1, 10, none⟩ (.int .i64 s)).setCell ⟨w.heap.size + 1, 11, none⟩ (.int .i64 mc)).drew.cell? ⟨w.heap.size + 1, 8, none⟩ = some (.int .i64 h) ∧ ((((((((((((w4.setCell ⟨w.heap.size + 1, 0, none⟩ (.int .i64 k)).setCell ⟨w.heap.size + 1, 1, none⟩ (.int .i64 i)).setCell ⟨w.heap.size + 1, 2, none⟩ (.int .u64 b)).setCell ⟨w.heap.size + 1, 3, none⟩ (.string tx)).setCell ⟨w.heap.size + 1, 4, none⟩ (.bool ng)).setCell ⟨w.heap.size + 1, 5, none⟩ (.int .i64 y)).setCell ⟨w.heap.size + 1, 6, none⟩ (.int .i64 mo)).setCell ⟨w.heap.size + 1, 7, none⟩ (.int .i64 d)).setCell ⟨w.heap.size + 1, 8, none⟩ (.int .i64 h)).setCell ⟨w.heap.size + 1, 9, none⟩ (.int .i64 mi)).setCell ⟨w.heap.size + 1, 10, none⟩ (.int .i64 s)).setCell ⟨w.heap.size + 1, 11, none⟩ (.int .i64 mc)).drew.cell? ⟨w.heap.size + 1, 9, none⟩ = some (.int .i64 mi) ∧ ((((((((((((w4.setCell ⟨w.heap.size + 1, 0, none⟩ (.int .i64 k)).setCell ⟨w.heap.size + 1, 1, none⟩ (.int .i64 i)).setCell ⟨w.heap.size + 1, 2, none⟩ (.int .u64 b)).setCell ⟨w.heap.size + 1, 3, none⟩ (.string tx)).setCell ⟨w.heap.size + 1, 4, none⟩ (.bool ng)).setCell ⟨w.heap.size + 1, 5, none⟩ (.int .i64 y)).setCell ⟨w.heap.size + 1, 6, none⟩ (.int .i64 mo)).setCell ⟨w.heap.size + 1, 7, none⟩ (.int .i64 d)).setCell ⟨w.heap.size + 1, 8, none⟩ (.int .i64 h)).setCell ⟨w.heap.size + 1, 9, none⟩ (.int .i64 mi)).setCell ⟨w.heap.size + 1, 10, none⟩ (.int .i64 s)).setCell ⟨w.heap.size + 1, 11, none⟩ (.int .i64 mc)).drew.cell? ⟨w.heap.size + 1, 10, none⟩ = some (.int .i64 s) ∧ ((((((((((((w4.setCell ⟨w.heap.size + 1, 0, none⟩ (.int .i64 k)).setCell ⟨w.heap.size + 1, 1, none⟩ (.int .i64 i)).setCell ⟨w.heap.size + 1, 2, none⟩ (.int .u64 b)).setCell ⟨w.heap.size + 1, 3, none⟩ (.string tx)).setCell ⟨w.heap.size + 1, 4, none⟩ (.bool ng)).setCell ⟨w.heap.size + 1, 5, none⟩ (.int .i64 y)).setCell ⟨w.heap.size + 1, 6, none⟩ (.int .i64 mo)).setCell ⟨w.heap.size + 1, 7, none⟩ (.int .i64 d)).setCell ⟨w.heap.size + 1, 8, none⟩ (.int .i64 h)).setCell ⟨w.heap.size + 1, 9, none⟩ (.int .i64 mi)).setCell ⟨w.heap.size + 1, 10, none⟩ (.int .i64 s)).setCell ⟨w.heap.size + 1, 11, none⟩ (.int .i64 mc)).drew.cell? ⟨w.heap.size + 1, 11, none⟩ = some (.int .i64 mc) from (have q := drew_row1 (rsets12 RV (v0 := .int .i64 k) (v1 := .int .i64 i) (v2 := .int .u64 b) (v3 := .string tx) (v4 := .bool ng) (v5 := .int .i64 y) (v6 := .int .i64 mo) (v7 := .int .i64 d) (v8 := .int .i64 h) (v9 := .int .i64 mi) (v10 := .int .i64 s) (v11 := .int .i64 mc)); ⟨vrow_cell q (j := 0) (v := .int .i64 k) rfl, vrow_cell q (j := 1) (v := .int .i64 i) rfl, vrow_cell q (j := 2) (v := .int .u64 b) rfl, vrow_cell q (j := 3) (v := .string tx) rfl, vrow_cell q (j := 4) (v := .bool ng) rfl, vrow_cell q (j := 5) (v := .int .i64 y) rfl, vrow_cell q (j := 6) (v := .int .i64 mo) rfl, vrow_cell q (j := 7) (v := .int .i64 d) rfl, vrow_cell q (j := 8) (v := .int .i64 h) rfl, vrow_cell q (j := 9) (v := .int .i64 mi) rfl, vrow_cell q (j := 10) (v := .int .i64 s) rfl, vrow_cell q (j := 11) (v := .int .i64 mc) rfl⟩))
    obtain ⟨g0, g1, g2, g3, g4, g5, g7, g8, g9, g10, g11, g12⟩ := (show w4.cell? ⟨w.heap.size + 1, 0, none⟩ = some (.int .i64 k) ∧ w4.cell? ⟨w.heap.size + 1, 1, none⟩ = some (.int .i64 i) ∧ w4.cell? ⟨w.heap.size + 1, 2, none⟩ = some (.int .u64 b) ∧ w4.cell? ⟨w.heap.size + 1, 3, none⟩ = some (.string tx) ∧ w4.cell? ⟨w.heap.size + 1, 4, none⟩ = some (.bool ng) ∧ w4.cell? ⟨w.heap.size + 1, 5, none⟩ = some (.int .i64 y) ∧ w4.cell? ⟨w.heap.size + 1, 6, none⟩ = some (.int .i64 mo) ∧ w4.cell? ⟨w.heap.size + 1, 7, none⟩ = some (.int .i64 d) ∧ w4.cell? ⟨w.heap.size + 1, 8, none⟩ = some (.int .i64 h) ∧ w4.cell? ⟨w.heap.size + 1, 9, none⟩ = some (.int .i64 mi) ∧ w4.cell? ⟨w.heap.size + 1, 10, none⟩ = some (.int .i64 s) ∧ w4.cell? ⟨w.heap.size + 1, 11, none⟩ = some (.int .i64 mc) from ⟨vrow_cell RV (j := 0) (v := .int .i64 k) rfl, vrow_cell RV (j := 1) (v := .int .i64 i) rfl, vrow_cell RV (j := 2) (v := .int .u64 b) rfl, vrow_cell RV (j := 3) (v := .string tx) rfl, vrow_cell RV (j := 4) (v := .bool ng) rfl, vrow_cell RV (j := 5) (v := .int .i64 y) rfl, vrow_cell RV (j := 6) (v := .int .i64 mo) rfl, vrow_cell RV (j := 7) (v := .int .i64 d) rfl, vrow_cell RV (j := 8) (v := .int .i64 h) rfl, vrow_cell RV (j := 9) (v := .int .i64 mi) rfl, vrow_cell RV (j := 10) (v := .int .i64 s) rfl, vrow_cell RV (j := 11) (v := .int .i64 mc) rfl⟩)
    go_region_held3 (fun w' => w'.cell? ⟨w.heap.size + 1, 0, none⟩ = some (.int .i64 k) ∧ w'.cell? ⟨w.heap.size + 1, 1, none⟩ = some (.int .i64 i) ∧ w'.cell? ⟨w.heap.size + 1, 2, none⟩ = some (.int .u64 b) ∧ w'.cell? ⟨w.heap.size + 1, 3, none⟩ = some (.string tx) ∧ w'.cell? ⟨w.heap.size + 1, 4, none⟩ = some (.bool ng) ∧ w'.cell? ⟨w.heap.size + 1, 5, none⟩ = some (.int .i64 y) ∧ w'.cell? ⟨w.heap.size + 1, 6, none⟩ = some (.int .i64 mo) ∧ w'.cell? ⟨w.heap.size + 1, 7, none⟩ = some (.int .i64 d) ∧ w'.cell? ⟨w.heap.size + 1, 8, none⟩ = some (.int .i64 h) ∧ w'.cell? ⟨w.heap.size + 1, 9, none⟩ = some (.int .i64 mi) ∧ w'.cell? ⟨w.heap.size + 1, 10, none⟩ = some (.int .i64 s) ∧ w'.cell? ⟨w.heap.size + 1, 11, none⟩ = some (.int .i64 mc)) (first | with_reducible exact unhide HS0 | with_reducible exact unhide HS1 | go_keep) (fail)
    go_wp2_with fail
    refine bodyPost_ret (results_row_tmp2 rfl _ _ (w.heap.size + 1) _ rfl (run_loadVar_row _ (w.heap.size + 1) _ _ _ _ _ (drew_row1 (rsets12 RV)) Try.underlying32 rfl (unhide SV))) rfl ?_
    have B5 := (((unhide P4).set (rsets12 RV (v0 := .int .i64 k) (v1 := .int .i64 i) (v2 := .int .u64 b) (v3 := .string tx) (v4 := .bool ng) (v5 := .int .i64 y) (v6 := .int .i64 mo) (v7 := .int .i64 d) (v8 := .int .i64 h) (v9 := .int .i64 mi) (v10 := .int .i64 s) (v11 := .int .i64 mc)) gsets12).later (below_drew _)).bl
    rw [unhide HR]
    exact ⟨lo, bn - NN, lc, rfl, unhide HLB, B5⟩


end Go.Proofs.Ytfgghgoonfamkaa
