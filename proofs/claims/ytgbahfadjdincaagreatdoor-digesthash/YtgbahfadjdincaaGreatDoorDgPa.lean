/-
  What withParam and withParams of package digest return: words of their own, each text and each number a parameter; how many signs ; stand at the end. Conditions: at most 100,000 words, each of at most 2 to the 30 bytes.
-/
import Derived.Test.YtgbahfadjdincaaGreatDoorDgWo
import Derived.Test.YtgbahfadjdincaaGreatDoorShl
namespace Go.Proofs.YtgbahfadjdincaaGreatDoor
open Go.RowKit
set_option linter.unusedVariables false
set_option linter.unusedSimpArgs false

theorem dclone_any (s : ByteArray) (w : World) (h : s.size ≤ 281474976710656) : Calls Tryz.prog 104 #[.string s] w fun e w' => e = .returned (.string s) ∧ Below w.heap.size w w' := by
  have c := hide (Tryz.stringslite_Clone s w h)
  go_enter Tryz.func104, Tryz.ntmps104
  go_wp2_with (go_at_call 128; refine (unhide c).mono ?_; rintro e w1 ⟨rfl, b1⟩)
  go_ret
  exact ⟨rfl, b1⟩
theorem zeroWd (w : World) : (zeroValue 34).run Tryz.prog w = .ok (.agg (wdC wd0)) w := by kernel_rfl
theorem row_later {w w' : World} {g : Nat} {o : Obj} (h : w.heap[g]? = some o) (hb : Below w.heap.size w w') : w'.heap[g]? = some o := by
  rw [hb.block g (Array.getElem?_eq_some_iff.1 h).1]
  exact h
theorem row_sets3 {w : World} {g : Nat} {T : TypeId} {z0 z1 z2 v0 v1 v2 : Value} (h : w.heap[g]? = some (.cells #[z0, z1, z2] T (0, 0))) :
    (((w.setCell ⟨g, 0, none⟩ v0).setCell ⟨g, 1, none⟩ v1).setCell ⟨g, 2, none⟩ v2).heap[g]? = some (.cells #[v0, v1, v2] T (0, 0)) := by
  have a : (w.setCell ⟨g, 0, none⟩ v0).heap[g]? = some (.cells #[v0, z1, z2] T (0, 0)) := heap_setCell_same w g 0 _ _ _ h
  have b : ((w.setCell ⟨g, 0, none⟩ v0).setCell ⟨g, 1, none⟩ v1).heap[g]? = some (.cells #[v0, v1, z2] T (0, 0)) := heap_setCell_same _ g 1 _ _ _ a
  exact heap_setCell_same _ g 2 _ _ _ b
theorem below_sets3 {w0 w : World} {B g : Nat} {v0 v1 v2 : Value} (h : Below B w0 w) (hg : B ≤ g) : Below B w0 (((w.setCell ⟨g, 0, none⟩ v0).setCell ⟨g, 1, none⟩ v1).setCell ⟨g, 2, none⟩ v2) :=
  ((h.setCell hg _).setCell hg _).setCell hg _
theorem row_drew {w : World} {g : Nat} {o : Obj} (h : w.heap[g]? = some o) : w.drew.heap[g]? = some o := h
theorem wd_end {w0 w : World} {a : Act} (g : Nat) (c C : Wd) (hp : a.tmps.getD 2 undef = .pointer (some ⟨g, 0, none⟩)) (hd : a.defers = []) (hg : w.heap[g]? = some (.cells (wdC c) 34 (0, 0))) (hF : c = C) (hb : Below w0.heap.size w0 w) :
    bodyPost Tryz.prog Tryz.f67 (fun e w' => e = .returned (.agg (wdC C)) ∧ Below w0.heap.size w0 w') .ret a w :=
  bodyPost_ret (results_cell_row rfl _ _ g _ (wdC c) _ _ hp hg Tryz.underlying34 rfl (wdc_info _)) hd ⟨by rw [hF], hb⟩

set_option maxHeartbeats 4000000 in
set_option maxRecDepth 20000 in
theorem withParam_any (p : Wd) (w : World) (hs : p.tx.size ≤ 1073741824) : Calls Tryz.prog 67 #[.agg (wdC p)] w fun e w' => e = .returned (.agg (wdC (dpar p))) ∧ Below w.heap.size w w' := by
  have b0 := below_alloc w (.cells (wdC p) 34)
  have r0 := heap_alloc_new w (.cells (wdC p) 34)
  have cc := hide (fun wx => dclone_any p.tx wx (by omega))
  have e0 : (w.alloc (.cells (wdC p) 34)).heap.size = w.heap.size + 1 := by simp
  obtain ⟨pk, pt, pa⟩ := p
  simp only at hs cc
  have HB0 := hide b0
  have HR0 := hide r0
  have HE0 := hide e0
  have D : ∀ c, dpar ⟨pk, pt, pa⟩ = c → Hid (c = dpar ⟨pk, pt, pa⟩) := fun c h => hide h.symm
  clear b0 r0 e0
  unfold wdC at HB0 HR0 HE0 ⊢
  simp only at HB0 HR0 HE0 ⊢
  obtain ⟨wb, hwb⟩ : ∃ wb, wb = w.alloc (.cells #[.int .i64 pk, .string pt, .int .i64 pa] 34) := ⟨_, rfl⟩
  have HW := hide hwb
  rw [← hwb] at HB0 HR0 HE0
  have x0 := cell_of_row _ _ 0 _ _ _ (unhide HR0)
  have x1 := cell_of_row _ _ 1 _ _ _ (unhide HR0)
  have x2 := cell_of_row _ _ 2 _ _ _ (unhide HR0)
  subst hwb
  by_cases h3 : pk = 3 ∨ pk = 4
  · have hd := D ⟨8, ba [], pa⟩ (by unfold dpar; rw [if_pos h3])
    clear D
    by_cases h4 : pk = 3
    · subst h4
      clear h3
      go_enter Tryz.func67, Tryz.ntmps67
      go_wp2_with (first | (with_reducible show wpList Tryz.prog _ _ (Oper.mk _ (Op.alloc 34) _ _ _ none :: _) _ _; refine wpList_alK rfl _ rfl (wdC wd0) zeroWd ?_; intro w1 r1 q1 z1; have y0 := cell_later q1 x0; have y2 := cell_later q1 x2) | (with_reducible show wpList Tryz.prog _ _ (Oper.mk _ (Op.store 34 _ _) _ _ _ none :: _) _ _; refine wpList_stK rfl _ _ (.tmp 13) rfl (w.heap.size + 1) (wdC ⟨8, ba [], pa⟩) (wdC wd0) (by simp [Act.eval, Act.put]) (by simp [Act.eval, Act.put, wdC, ba]) (by rw [← unhide HE0]; exact r1) (wdc_info _) rfl (wdc_one _) ?_; intro w2 r2 q2 z2))
      exact wd_end (w.heap.size + 1) _ _ rfl rfl r2 (unhide hd) (belowG (belT (unhide HB0) q1) q2 (by omega) (by have := q1.size; have := unhide HE0; omega))
    · obtain rfl : pk = 4 := by omega
      have g3 : ((4 : Int) == 3) = false := by decide
      clear h3 h4
      go_enter Tryz.func67, Tryz.ntmps67
      go_wp2_with (first | (with_reducible show wpList Tryz.prog _ _ (Oper.mk _ (Op.alloc 34) _ _ _ none :: _) _ _; refine wpList_alK rfl _ rfl (wdC wd0) zeroWd ?_; intro w1 r1 q1 z1; have y0 := cell_later q1 x0; have y2 := cell_later q1 x2) | (with_reducible show wpList Tryz.prog _ _ (Oper.mk _ (Op.store 34 _ _) _ _ _ none :: _) _ _; refine wpList_stK rfl _ _ (.tmp 13) rfl (w.heap.size + 1) (wdC ⟨8, ba [], pa⟩) (wdC wd0) (by simp [Act.eval, Act.put]) (by simp [Act.eval, Act.put, wdC, ba]) (by rw [← unhide HE0]; exact r1) (wdc_info _) rfl (wdc_one _) ?_; intro w2 r2 q2 z2))
      exact wd_end (w.heap.size + 1) _ _ rfl rfl r2 (unhide hd) (belowG (belT (unhide HB0) q1) q2 (by omega) (by have := q1.size; have := unhide HE0; omega))
  · have hd := D ⟨pk, pt, pa⟩ (by unfold dpar; rw [if_neg h3])
    have g3 : (pk == 3) = false := by rw [beq_eq_false_iff_ne]; omega
    have g4 : (pk == 4) = false := by rw [beq_eq_false_iff_ne]; omega
    clear D h3
    go_enter Tryz.func67, Tryz.ntmps67
    go_wp2_with (with_reducible show wpList Tryz.prog _ _ (Oper.mk _ (Op.alloc 34) _ _ _ none :: _) _ _; refine wpList_alK rfl _ rfl (wdC wd0) zeroWd ?_; intro w1 r1 q1 z1; have y0 := cell_later q1 x0; have y1 := cell_later q1 x1; have y2 := cell_later q1 x2)
    have R1 : w1.heap[w.heap.size + 1]? = some (.cells #[.int .i64 0, .string (ba []), .int .i64 0] 34 (0, 0)) := by rw [← unhide HE0]; exact r1
    have H1 := hide (belT (unhide HB0) q1)
    have s1 : w.heap.size + 1 < w1.heap.size := by have := unhide HE0; omega
    go_region_with (go_at_call 104; refine (unhide cc _).mono ?_; rintro e w3 ⟨rfl, q3⟩; have Q3 : Below w1.heap.size w1 w3 := (show Below w1.heap.size w1 _ from (by (repeat' (first | exact Below.refl _ _ | refine bl_drew ?_ | refine bl_drewN ?_ _)) <;> fail)).trans q3; have v0 := cell_later Q3 y0; have v1 := cell_later Q3 y1; have v2 := cell_later Q3 y2; have R3 := row_later R1 Q3; have u0 := cell_of_row _ _ 0 _ _ _ R3; have u1 := cell_of_row _ _ 1 _ _ _ R3; have u2 := cell_of_row _ _ 2 _ _ _ R3; have f0 := frozen_of_row w3 (w.heap.size + 1) 0 _ _ R3; have f1 := frozen_of_row w3 (w.heap.size + 1) 1 _ _ R3; have f2 := frozen_of_row w3 (w.heap.size + 1) 2 _ _ R3)
    all_goals go_wp2_with fail
    all_goals exact wd_end (w.heap.size + 1) ⟨pk, pt, pa⟩ _ rfl rfl (row_sets3 R3) (unhide hd) (below_sets3 (belT (unhide H1) Q3) (by omega))

end Go.Proofs.YtgbahfadjdincaaGreatDoor
