/-
  What readDate of package value returns. It writes nothing that was there. Conditions: the bytes can be read.
-/
import Derived.Test.YtfgghgoonfamkaaMRd
namespace Go.Proofs.Ytfgghgoonfamkaa
open Go.RowKit
set_option linter.unusedVariables false
set_option linter.unusedSimpArgs false

theorem twelve {l : List Int} (h : l.length = 12) : ∃ x0 x1 x2 x3 x4 x5 x6 x7 x8 x9 x10 x11, l = [x0, x1, x2, x3, x4, x5, x6, x7, x8, x9, x10, x11] := by
  match l, h with
  | [x0, x1, x2, x3, x4, x5, x6, x7, x8, x9, x10, x11], _ => exact ⟨x0, x1, x2, x3, x4, x5, x6, x7, x8, x9, x10, x11, rfl⟩

theorem sets3 {w : World} {g : Nat} {T : TypeId} {v1 v2 v3 z0 z1 z2 z3 z4 z5 z6 z7 : Value} (h : w.heap[g]? = some (.cells #[z0, z1, z2, z3, z4, z5, z6, z7] T (0, 0))) : (((w.setCell ⟨g, 1, none⟩ v1).setCell ⟨g, 2, none⟩ v2).setCell ⟨g, 3, none⟩ v3).heap[g]? = some (.cells #[z0, v1, v2, v3, z4, z5, z6, z7] T (0, 0)) := by
  have h1 : (w.setCell ⟨g, 1, none⟩ v1).heap[g]? = some (.cells #[z0, v1, z2, z3, z4, z5, z6, z7] T (0, 0)) := heap_setCell_same _ g 1 _ _ _ h
  have h2 : ((w.setCell ⟨g, 1, none⟩ v1).setCell ⟨g, 2, none⟩ v2).heap[g]? = some (.cells #[z0, v1, v2, z3, z4, z5, z6, z7] T (0, 0)) := heap_setCell_same _ g 2 _ _ _ h1
  exact heap_setCell_same _ g 3 _ _ _ h2
theorem sets3o {w : World} {g k : Nat} {v1 v2 v3 : Value} {o : Obj} (hk : k ≠ g) (h : w.heap[k]? = some o) : (((w.setCell ⟨g, 1, none⟩ v1).setCell ⟨g, 2, none⟩ v2).setCell ⟨g, 3, none⟩ v3).heap[k]? = some o := by
  rw [heap_setCell_other _ _ _ _ hk, heap_setCell_other _ _ _ _ hk, heap_setCell_other _ _ _ _ hk]
  exact h
theorem sets3b {w0 w : World} {B g : Nat} {v1 v2 v3 : Value} (h : Below B w0 w) (hg : B ≤ g) : Below B w0 (((w.setCell ⟨g, 1, none⟩ v1).setCell ⟨g, 2, none⟩ v2).setCell ⟨g, 3, none⟩ v3) := ((h.setCell hg _).setCell hg _).setCell hg _

theorem rdF_byt {b ls : List Int} (hb : Byt b) : Byt (rdF b ls).1 := by
  unfold rdF
  have hz : Byt zer12 := fun z hz => by simp [zer12] at hz; omega
  split
  · exact hz
  split
  · exact hz
  split
  · exact hz
  · exact ((hb.drop 1).take _).app (hz.drop _)

set_option maxHeartbeats 2000000 in
set_option maxRecDepth 100000 in
theorem readDate_any (bo : Option Addr) (bn bc : Nat) (b : List Int) (w : World) (hb : Bs w bo bn bc b) :
    Calls Try.prog 95 #[.slice bo bn bc] w fun e w' => e = .returned (.tuple #[.agg (whC (rdD b).1), .int .i64 (rdD b).2.1, .int .i64 (rdD b).2.2]) ∧ Below w.heap.size w w' := by
  unfold rdD
  have hlen := rdF_len b dLs (by decide)
  have hby := rdF_byt (ls := dLs) hb.byt
  obtain ⟨w1, hw1⟩ : ∃ z, z = w.alloc (.cells #[.bool false, .int .i64 0, .int .i64 0, .int .i64 0, .int .i64 0, .int .i64 0, .int .i64 0, .int .i64 0] 30) := ⟨_, rfl⟩
  have b1 : Below w.heap.size w w1 := by rw [hw1]; exact below_alloc w _
  have q1 : w1.heap[w.heap.size]? = some (.cells #[.bool false, .int .i64 0, .int .i64 0, .int .i64 0, .int .i64 0, .int .i64 0, .int .i64 0, .int .i64 0] 30 (0, 0)) := by rw [hw1]; exact heap_alloc_new w _
  have s1 : w1.heap.size = w.heap.size + 1 := by rw [hw1]; simp
  obtain ⟨w2, hw2⟩ : ∃ z, z = w1.alloc (.cells #[.int .i64 0, .int .i64 4, .int .i64 7, .int .i64 11] 3) := ⟨_, rfl⟩
  have b2 : Below w1.heap.size w1 w2 := by rw [hw2]; exact below_alloc w1 _
  have r2 : w2.heap[w.heap.size + 1]? = some (.cells #[.int .i64 0, .int .i64 4, .int .i64 7, .int .i64 11] 3 (0, 0)) := by rw [hw2, ← s1]; exact heap_alloc_new w1 _
  have cF := hide (readFields_any bo bn bc b (w.heap.size + 1) 4 dLs w2 ((hb.later b1).later b2) rfl (by omega) (by decide) (fun j hj => by
    rw [cell_of_row w2 _ (0 + j) _ _ _ r2]
    match j, hj with
    | 0, _ => rfl
    | 1, _ => rfl
    | 2, _ => rfl
    | 3, _ => rfl))
  generalize (rdF b dLs).2.1 = NN at *
  generalize (rdF b dLs).2.2 = EE at *
  generalize (rdF b dLs).1 = F at *
  obtain ⟨x0, x1, x2, x3, x4, x5, x6, x7, x8, x9, x10, x11, rfl⟩ := twelve hlen
  have hbx : ∀ z ∈ [x0, x1, x2, x3, x4, x5, x6, x7, x8, x9, x10, x11], 0 ≤ z ∧ z ≤ 255 := hby
  have e0 : datO [x0, x1, x2, x3, x4, x5, x6, x7, x8, x9, x10, x11] = ⟨false, val [x0, x1] 2, x2, x3, x4, x5, x6, val [x7, x8, x9, x10] 4⟩ := by
    unfold datO clkO
    simp only [List.drop_succ_cons, List.drop_zero, List.getD_cons_zero, List.getD_cons_succ]
    rw [show ([x0, x1, x2, x3, x4, x5, x6, x7, x8, x9, x10, x11] : List Int) = [x0, x1] ++ [x2, x3, x4, x5, x6, x7, x8, x9, x10, x11] from rfl, val_append _ _ 2 (by simp), show ([x7, x8, x9, x10, x11] : List Int) = [x7, x8, x9, x10] ++ [x11] from rfl, val_append _ _ 4 (by simp)]
  rw [e0]
  unfold whC
  simp only
  rw [show f12 [x0, x1, x2, x3, x4, x5, x6, x7, x8, x9, x10, x11] = #[.int .u8 x0, .int .u8 x1, .int .u8 x2, .int .u8 x3, .int .u8 x4, .int .u8 x5, .int .u8 x6, .int .u8 x7, .int .u8 x8, .int .u8 x9, .int .u8 x10, .int .u8 x11] from rfl] at cF
  have cC := hide (fun (wx : World) (gx : Nat) hr => clockOf_4 gx x0 x1 x2 x3 x4 x5 x6 x7 x8 x9 x10 x11 wx hbx hr)
  have cN := hide (fun (wx : World) (gx : Nat) (hr : wx.heap[gx]? = some (.cells #[.int .u8 x0, .int .u8 x1, .int .u8 x2, .int .u8 x3, .int .u8 x4, .int .u8 x5, .int .u8 x6, .int .u8 x7, .int .u8 x8, .int .u8 x9, .int .u8 x10, .int .u8 x11] 132 (0, 0))) => number_any (some ⟨gx, 0, none⟩) 2 12 [x0, x1] wx ⟨rfl, by omega, by omega, fun z => by (cases z), fun z hz => hbx z (by simp at hz ⊢; rcases hz with h | h <;> simp [h]), .inr ⟨gx, 0, rfl, fun i hi => by
      rw [cell_of_row wx gx (0 + i) _ _ _ hr]
      match i, hi with
      | 0, _ => rfl
      | 1, _ => rfl⟩⟩ (by omega) (by omega))
  have vb : (0 ≤ val [x0, x1] 2 ∧ val [x0, x1] 2 < 2 ^ (8 * 2)) := val_bounds (fun z hz => hbx z (by simp at hz ⊢; rcases hz with h | h <;> simp [h])) 2
  generalize val [x0, x1] 2 = VY at *
  generalize val [x7, x8, x9, x10] 4 = VM at *
  have u2 := hbx x2 (by simp)
  have u3 := hbx x3 (by simp)
  have i2 : IntKind.i64.wrap x2 = x2 := by rw [IntKind.wrap_i64]; omega
  have i3 : IntKind.i64.wrap x3 = x3 := by rw [IntKind.wrap_i64]; omega
  have SZ := hide (show (Try.prog.info? 132).map (·.size) = some (#[.int .u8 x0, .int .u8 x1, .int .u8 x2, .int .u8 x3, .int .u8 x4, .int .u8 x5, .int .u8 x6, .int .u8 x7, .int .u8 x8, .int .u8 x9, .int .u8 x10, .int .u8 x11] : Array Value).size by kernel_rfl)
  have SW := hide (show (Try.prog.info? 30).map (·.size) = some (#[.bool false, .int .i64 VY, .int .i64 x2, .int .i64 x3, .int .i64 x4, .int .i64 x5, .int .i64 x6, .int .i64 VM] : Array Value).size by kernel_rfl)
  have HO := hide (show (#[.bool false, .int .i64 VY, .int .i64 x2, .int .i64 x3, .int .i64 x4, .int .i64 x5, .int .i64 x6, .int .i64 VM] : Array Value).all (·.oneCell') = true by simp [Value.oneCell'])
  have HW1 := hide (show w.alloc (.cells #[.bool false, .int .i64 0, .int .i64 0, .int .i64 0, .int .i64 0, .int .i64 0, .int .i64 0, .int .i64 0] 30) = w1 from hw1.symm)
  have HW2 := hide (show w1.alloc (.cells #[.int .i64 0, .int .i64 4, .int .i64 7, .int .i64 11] 3) = w2 from hw2.symm)
  have B2 := hide (vbup b1 b2)
  have Q2 := hide (vrow_later q1 b2)
  clear hw1 hw2 b1 b2 q1 r2 s1 hb hby hbx hlen e0
  go_enter Try.func95, Try.ntmps95
  go_upto_region 3 with (first
    | (go_at_call 105; rw [unhide HW1, unhide HW2]; refine (unhide cF).mono ?_; rintro e w3 ⟨rfl, b3⟩; have B3 := hide (vbup (unhide B2) b3); have Q3 := hide (vrow_later (unhide Q2) b3); clear b3
       have b4 := below_alloc w3 (.cells #[.int .u8 x0, .int .u8 x1, .int .u8 x2, .int .u8 x3, .int .u8 x4, .int .u8 x5, .int .u8 x6, .int .u8 x7, .int .u8 x8, .int .u8 x9, .int .u8 x10, .int .u8 x11] 132); have r4 := heap_alloc_new w3 (.cells #[.int .u8 x0, .int .u8 x1, .int .u8 x2, .int .u8 x3, .int .u8 x4, .int .u8 x5, .int .u8 x6, .int .u8 x7, .int .u8 x8, .int .u8 x9, .int .u8 x10, .int .u8 x11] 132)
       obtain ⟨w4, hw4⟩ : ∃ z, z = w3.alloc (.cells #[.int .u8 x0, .int .u8 x1, .int .u8 x2, .int .u8 x3, .int .u8 x4, .int .u8 x5, .int .u8 x6, .int .u8 x7, .int .u8 x8, .int .u8 x9, .int .u8 x10, .int .u8 x11] 132) := ⟨_, rfl⟩
       rw [← hw4] at b4 r4
       have B4 := hide (vbup (unhide B3) b4); have Q4 := hide (vrow_later (unhide Q3) b4); have R4 := hide r4; have HW4 := hide hw4.symm
       clear b4 r4 hw4)
    | (go_at_call 106; rw [unhide HW4]; refine (unhide cC w4 w3.heap.size (unhide R4)).mono ?_; rintro e w5 ⟨rfl, b5⟩; have B5 := hide (vbup (unhide B4) b5); have Q5 := hide (vrow_later (unhide Q4) b5); have R5 := hide (vrow_later (unhide R4) b5); clear b5))
  have b6 := below_alloc w5 (.cells #[.bool false, .int .i64 0, .int .i64 0, .int .i64 0, .int .i64 x4, .int .i64 x5, .int .i64 x6, .int .i64 VM] 30)
  have r6 := heap_alloc_new w5 (.cells #[.bool false, .int .i64 0, .int .i64 0, .int .i64 0, .int .i64 x4, .int .i64 x5, .int .i64 x6, .int .i64 VM] 30)
  have hl5 := (Array.getElem?_eq_some_iff.1 (unhide R5)).1
  obtain ⟨w6, hw6⟩ : ∃ z, z = w5.alloc (.cells #[.bool false, .int .i64 0, .int .i64 0, .int .i64 0, .int .i64 x4, .int .i64 x5, .int .i64 x6, .int .i64 VM] 30) := ⟨_, rfl⟩
  rw [← hw6] at b6 r6
  have B6 := hide (vbup (unhide B5) b6)
  have Q6 := hide (vrow_later (unhide Q5) b6)
  have R6 := vrow_later (unhide R5) b6
  have K6 := hide r6
  have k2 := vrow_cell R6 (j := 2) (v := .int .u8 x2) rfl
  have k3 := vrow_cell R6 (j := 3) (v := .int .u8 x3) rfl
  have m1 := vrow_cell r6 (j := 1) (v := .int .i64 0) rfl
  have m2 := vrow_cell r6 (j := 2) (v := .int .i64 0) rfl
  have m3 := vrow_cell r6 (j := 3) (v := .int .i64 0) rfl
  have f1 := frozen_of_row w6 _ 1 _ _ r6
  have f2 := frozen_of_row w6 _ 2 _ _ r6
  have f3 := frozen_of_row w6 _ 3 _ _ r6
  have cN6 := hide (unhide cN w6.drew w3.heap.size R6)
  rw [← hw6]
  have hb5 := (unhide B5).size
  have hq5 : w.heap.size < w3.heap.size := (Array.getElem?_eq_some_iff.1 (unhide Q3)).1
  clear hb5
  generalize w3.heap.size = g3 at *
  generalize w5.heap.size = g5 at *
  have n1 : g3 ≠ g5 := by omega
  have n2 : g5 ≠ g3 := by omega
  have n3 : w.heap.size ≠ g5 := by omega
  have G5 := hide (Nat.lt_trans hq5 hl5)
  clear hw6 b6 r6 R6 hl5 hq5
  go_cut [] (fun wx => wx.heap[g5]? = some (.cells #[.bool false, .int .i64 VY, .int .i64 x2, .int .i64 x3, .int .i64 x4, .int .i64 x5, .int .i64 x6, .int .i64 VM] 30 (0, 0)) ∧ wx.heap[w.heap.size]? = some (.cells #[.bool false, .int .i64 0, .int .i64 0, .int .i64 0, .int .i64 0, .int .i64 0, .int .i64 0, .int .i64 0] 30 (0, 0)) ∧ Below w.heap.size w wx)
  case first =>
    go_region_with (go_at_call 107; (with_reducible refine same_world (unhide cN6) ?_))
    all_goals
      go_wp2_with fail
      go_meet
      exact ⟨drew_rw' (sets3 (unhide K6)), drew_rw' (sets3o n3 (unhide Q6)), Below.drew (sets3b (unhide B6) (Nat.le_of_lt (unhide G5)))⟩
  case rest =>
    obtain ⟨ra, rb, rc⟩ := hcut
    have RA := hide ra
    have RB := hide rb
    have RC := hide rc
    clear ra rb rc k2 k3 m1 m2 m3 f1 f2 f3
    go_wp2_with (first
      | (with_reducible show wpList Try.prog _ _ (Oper.mk _ (Op.load 30 _) _ _ _ none :: _) _ _; refine wpList_load_row rfl _ (.tmp 8) rfl g5 rfl _ #[.bool false, .int .i64 VY, .int .i64 x2, .int .i64 x3, .int .i64 x4, .int .i64 x5, .int .i64 x6, .int .i64 VM] (0, 0) _ (unhide RA) Try.underlying30 rfl (unhide SW) ?_)
      | (with_reducible show wpList Try.prog _ _ (Oper.mk _ (Op.store 30 _ _) _ _ _ none :: _) _ _; refine wpList_stG rfl _ (.tmp 2) (.tmp 29) rfl w.heap.size #[.bool false, .int .i64 VY, .int .i64 x2, .int .i64 x3, .int .i64 x4, .int .i64 x5, .int .i64 x6, .int .i64 VM] #[.bool false, .int .i64 0, .int .i64 0, .int .i64 0, .int .i64 0, .int .i64 0, .int .i64 0, .int .i64 0] rfl rfl (unhide RB) (unhide SW) rfl (unhide HO) ?_; intro w8 r8 g8 s8; have R8 := hide r8; have B8 := hide (gb_below (unhide RC) g8 (Nat.le_refl _)); clear r8 g8 s8))
    refine bodyPost_ret (results_row_tmp2 rfl _ _ w.heap.size _ rfl (run_loadVar_row _ w.heap.size _ _ _ _ _ (unhide R8) Try.underlying30 rfl (unhide SW))) rfl ?_
    exact ⟨rfl, unhide B8⟩


end Go.Proofs.Ytfgghgoonfamkaa
