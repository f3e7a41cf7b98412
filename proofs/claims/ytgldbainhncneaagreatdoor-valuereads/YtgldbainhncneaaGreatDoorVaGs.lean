/-
  What guessDate and guessTime of package value return. They write nothing that was there. Conditions: the library's variables read as their initialisers lay them; texts of at most 2^40 bytes.
-/
import Derived.Test.YtgldbainhncneaaGreatDoorVaNx
import Derived.Test.YtgldbainhncneaaGreatDoorClRow
import Derived.Lib.AtoiAllCases
namespace Go.Proofs.YtgldbainhncneaaGreatDoor
open Go.RowKit
set_option linter.unusedVariables false
set_option linter.unusedSimpArgs false

theorem nx_set4 {w0 w : World} {l : List UInt8} {z0 z1 z2 z3 z4 z5 z6 z7 a b c d : Value} (h : Nx w0 l #[z0, z1, z2, z3, z4, z5, z6, z7] w) : Nx w0 l #[z0, a, b, c, d, z5, z6, z7] ((((w.setCell ⟨w0.heap.size, 1, none⟩ a).setCell ⟨w0.heap.size, 2, none⟩ b).setCell ⟨w0.heap.size, 3, none⟩ c).setCell ⟨w0.heap.size, 4, none⟩ d) := by
  have h0 : (w.setCell ⟨w0.heap.size, 1, none⟩ a).heap[w0.heap.size]? = some (.cells #[z0, a, z2, z3, z4, z5, z6, z7] 30 (0, 0)) := heap_setCell_same _ _ 1 _ _ _ h.rr
  have h1 : ((w.setCell ⟨w0.heap.size, 1, none⟩ a).setCell ⟨w0.heap.size, 2, none⟩ b).heap[w0.heap.size]? = some (.cells #[z0, a, b, z3, z4, z5, z6, z7] 30 (0, 0)) := heap_setCell_same _ _ 2 _ _ _ h0
  have h2 : (((w.setCell ⟨w0.heap.size, 1, none⟩ a).setCell ⟨w0.heap.size, 2, none⟩ b).setCell ⟨w0.heap.size, 3, none⟩ c).heap[w0.heap.size]? = some (.cells #[z0, a, b, c, z4, z5, z6, z7] 30 (0, 0)) := heap_setCell_same _ _ 3 _ _ _ h1
  have h3 : ((((w.setCell ⟨w0.heap.size, 1, none⟩ a).setCell ⟨w0.heap.size, 2, none⟩ b).setCell ⟨w0.heap.size, 3, none⟩ c).setCell ⟨w0.heap.size, 4, none⟩ d).heap[w0.heap.size]? = some (.cells #[z0, a, b, c, d, z5, z6, z7] 30 (0, 0)) := heap_setCell_same _ _ 4 _ _ _ h2
  exact h.set h3 ⟨rfl, rfl, rfl, by simp, fun k _ hk => by rw [heap_setCell_other _ _ _ _ hk, heap_setCell_other _ _ _ _ hk, heap_setCell_other _ _ _ _ hk, heap_setCell_other _ _ _ _ hk]⟩

theorem nx_set3 {w0 w : World} {l : List UInt8} {z0 z1 z2 z3 z4 z5 z6 z7 a b c : Value} (h : Nx w0 l #[z0, z1, z2, z3, z4, z5, z6, z7] w) : Nx w0 l #[z0, z1, z2, z3, z4, a, b, c] (((w.setCell ⟨w0.heap.size, 5, none⟩ a).setCell ⟨w0.heap.size, 6, none⟩ b).setCell ⟨w0.heap.size, 7, none⟩ c) := by
  have h0 : (w.setCell ⟨w0.heap.size, 5, none⟩ a).heap[w0.heap.size]? = some (.cells #[z0, z1, z2, z3, z4, a, z6, z7] 30 (0, 0)) := heap_setCell_same _ _ 5 _ _ _ h.rr
  have h1 : ((w.setCell ⟨w0.heap.size, 5, none⟩ a).setCell ⟨w0.heap.size, 6, none⟩ b).heap[w0.heap.size]? = some (.cells #[z0, z1, z2, z3, z4, a, b, z7] 30 (0, 0)) := heap_setCell_same _ _ 6 _ _ _ h0
  have h2 : (((w.setCell ⟨w0.heap.size, 5, none⟩ a).setCell ⟨w0.heap.size, 6, none⟩ b).setCell ⟨w0.heap.size, 7, none⟩ c).heap[w0.heap.size]? = some (.cells #[z0, z1, z2, z3, z4, a, b, c] 30 (0, 0)) := heap_setCell_same _ _ 7 _ _ _ h1
  exact h.set h2 ⟨rfl, rfl, rfl, by simp, fun k _ hk => by rw [heap_setCell_other _ _ _ _ hk, heap_setCell_other _ _ _ _ hk, heap_setCell_other _ _ _ _ hk]⟩

theorem nx_setT {w0 w : World} {l : List UInt8} {z0 z1 z2 z3 z4 z5 z6 z7 a b c : Value} (h : Nx w0 l #[z0, z1, z2, z3, z4, z5, z6, z7] w) : Nx w0 l #[a, z1, z2, b, c, z5, z6, z7] (((w.setCell ⟨w0.heap.size, 0, none⟩ a).setCell ⟨w0.heap.size, 3, none⟩ b).setCell ⟨w0.heap.size, 4, none⟩ c) := by
  have h0 : (w.setCell ⟨w0.heap.size, 0, none⟩ a).heap[w0.heap.size]? = some (.cells #[a, z1, z2, z3, z4, z5, z6, z7] 30 (0, 0)) := heap_setCell_same _ _ 0 _ _ _ h.rr
  have h1 : ((w.setCell ⟨w0.heap.size, 0, none⟩ a).setCell ⟨w0.heap.size, 3, none⟩ b).heap[w0.heap.size]? = some (.cells #[a, z1, z2, b, z4, z5, z6, z7] 30 (0, 0)) := heap_setCell_same _ _ 3 _ _ _ h0
  have h2 : (((w.setCell ⟨w0.heap.size, 0, none⟩ a).setCell ⟨w0.heap.size, 3, none⟩ b).setCell ⟨w0.heap.size, 4, none⟩ c).heap[w0.heap.size]? = some (.cells #[a, z1, z2, b, c, z5, z6, z7] 30 (0, 0)) := heap_setCell_same _ _ 4 _ _ _ h1
  exact h.set h2 ⟨rfl, rfl, rfl, by simp, fun k _ hk => by rw [heap_setCell_other _ _ _ _ hk, heap_setCell_other _ _ _ _ hk, heap_setCell_other _ _ _ _ hk]⟩

theorem atV_bd (l : List UInt8) : i64 (atV l) := by
  unfold atV
  cases h : Lib.atoiAll l with
  | ok v => exact Lib.atoiAll_bounds h
  | «syntax» => exact ⟨by simp, by simp⟩
  | range => exact Lib.atoiSat_bounds l
theorem nxA_bd (l : List UInt8) (n : Int) : i64 (nxA l n) := by
  unfold nxA
  split
  · exact ⟨by decide, by decide⟩
  · exact atV_bd _
theorem w24 {x : Int} (h : i64 x) : wrap64 (x.tdiv 24) = x.tdiv 24 := by
  obtain ⟨h0, h1⟩ := h
  unfold wrap64
  rcases Int.le_total 0 x with q | q
  · rw [Int.tdiv_eq_ediv_of_nonneg q]; omega
  · obtain ⟨y, rfl⟩ : ∃ y, x = -y := ⟨-x, by omega⟩
    rw [Int.neg_tdiv, Int.tdiv_eq_ediv_of_nonneg (by omega)]
    omega

theorem szW : (Tryz.prog.info? 30).map (·.size) = some 8 := by kernel_rfl
theorem oneW (b : Bool) (a1 a2 a3 a4 a5 a6 a7 : Int) : (#[.bool b, .int .i64 a1, .int .i64 a2, .int .i64 a3, .int .i64 a4, .int .i64 a5, .int .i64 a6, .int .i64 a7] : Array Value).all (·.oneCell') = true := by simp [Value.oneCell']

set_option maxHeartbeats 1000000 in
set_option maxRecDepth 100000 in
theorem guessDate_any (s : ByteArray) (w : World) (hv : VarZ w) (hs : s.size ≤ 1099511627776) : Calls Tryz.prog 58 #[.string s] w fun e w' => e = .returned (.agg (whC (gsD s.data.toList))) ∧ Below w.heap.size w w' := by
  have hsl : s.data.toList.length = s.size := by simp
  rw [show gsD s.data.toList = gsD s.data.toList from rfl]
  unfold gsD
  obtain ⟨l, hl⟩ : ∃ z, z = s.data.toList := ⟨_, rfl⟩
  rw [← hl] at hsl ⊢
  have hss : s = tb l := by rw [hl, tb_self']
  subst hss
  simp only
  unfold whC
  simp only
  obtain ⟨w1, hw1⟩ : ∃ z, z = (w.alloc (.cells #[.bool false, .int .i64 0, .int .i64 0, .int .i64 0, .int .i64 0, .int .i64 0, .int .i64 0, .int .i64 0] 30)).alloc (.cells #[.string (tb l)] 120) := ⟨_, rfl⟩
  have P0 : Nx w l #[.bool false, .int .i64 0, .int .i64 0, .int .i64 0, .int .i64 0, .int .i64 0, .int .i64 0, .int .i64 0] w1 := by
    have r2 := heap_alloc_new (w.alloc (.cells #[.bool false, .int .i64 0, .int .i64 0, .int .i64 0, .int .i64 0, .int .i64 0, .int .i64 0, .int .i64 0] 30)) (.cells #[.string (tb l)] 120)
    rw [show (w.alloc (.cells #[.bool false, .int .i64 0, .int .i64 0, .int .i64 0, .int .i64 0, .int .i64 0, .int .i64 0, .int .i64 0] 30)).heap.size = w.heap.size + 1 by simp] at r2
    rw [hw1]
    exact ⟨vrow_later (heap_alloc_new w _) (below_alloc _ _), r2, vbup (below_alloc w _) (below_alloc _ _), hv, by rw [hsl]; exact hs⟩
  have c1 := vrow_cell P0.rr (j := 1) (v := .int .i64 0) rfl; have f1 := frozen_of_row _ _ 1 _ _ P0.rr; have c2 := vrow_cell P0.rr (j := 2) (v := .int .i64 0) rfl; have f2 := frozen_of_row _ _ 2 _ _ P0.rr; have c3 := vrow_cell P0.rr (j := 3) (v := .int .i64 0) rfl; have f3 := frozen_of_row _ _ 3 _ _ P0.rr; have c4 := vrow_cell P0.rr (j := 4) (v := .int .i64 0) rfl; have f4 := frozen_of_row _ _ 4 _ _ P0.rr; have c5 := vrow_cell P0.rr (j := 5) (v := .int .i64 0) rfl; have f5 := frozen_of_row _ _ 5 _ _ P0.rr; have c6 := vrow_cell P0.rr (j := 6) (v := .int .i64 0) rfl; have f6 := frozen_of_row _ _ 6 _ _ P0.rr; have c7 := vrow_cell P0.rr (j := 7) (v := .int .i64 0) rfl; have f7 := frozen_of_row _ _ 7 _ _ P0.rr
  have SD := hide (show (Tryz.prog.info? 30).map (·.size) = some (#[.bool false, .int .i64 (nxA l 4), .int .i64 (nxA (nxS l 4) 2), .int .i64 (nxA (nxS (nxS l 4) 2) 2), .int .i64 (nxA (nxS (nxS (nxS l 4) 2) 2) 2), .int .i64 (nxA (nxS (nxS (nxS (nxS l 4) 2) 2) 2) 2), .int .i64 (nxA (nxS (nxS (nxS (nxS (nxS l 4) 2) 2) 2) 2) 2), .int .i64 (nxA (nxS (nxS (nxS (nxS (nxS (nxS l 4) 2) 2) 2) 2) 2) 6)] : Array Value).size by kernel_rfl)
  have OD := hide (show (#[.bool false, .int .i64 (nxA l 4), .int .i64 (nxA (nxS l 4) 2), .int .i64 (nxA (nxS (nxS l 4) 2) 2), .int .i64 (nxA (nxS (nxS (nxS l 4) 2) 2) 2), .int .i64 (nxA (nxS (nxS (nxS (nxS l 4) 2) 2) 2) 2), .int .i64 (nxA (nxS (nxS (nxS (nxS (nxS l 4) 2) 2) 2) 2) 2), .int .i64 (nxA (nxS (nxS (nxS (nxS (nxS (nxS l 4) 2) 2) 2) 2) 2) 6)] : Array Value).all (·.oneCell') = true from oneW _ _ _ _ _ _ _ _)
  have PP := hide P0
  have HW := hide (show (w.alloc (.cells #[.bool false, .int .i64 0, .int .i64 0, .int .i64 0, .int .i64 0, .int .i64 0, .int .i64 0, .int .i64 0] 30)).alloc (.cells #[.string (tb l)] 120) = w1 from hw1.symm)
  clear hw1 P0 hsl hl hs hv
  go_enter Tryz.func58, Tryz.ntmps58
  go_upto_region 2 with fail
  rw [unhide HW]
  go_wp2_with (first | (go_at_call 95; (with_reducible refine (next_nx _ _ (unhide PP)).mono ?_); rintro e wq ⟨rfl, P2⟩; clear c1 f1 c2 f2 c3 f3 c4 f4 c5 f5 c6 f6 c7 f7; have c1 := vrow_cell P2.rr (j := 1) (v := .int .i64 0) rfl; have f1 := frozen_of_row _ _ 1 _ _ P2.rr; have c2 := vrow_cell P2.rr (j := 2) (v := .int .i64 0) rfl; have f2 := frozen_of_row _ _ 2 _ _ P2.rr; have c3 := vrow_cell P2.rr (j := 3) (v := .int .i64 0) rfl; have f3 := frozen_of_row _ _ 3 _ _ P2.rr; have c4 := vrow_cell P2.rr (j := 4) (v := .int .i64 0) rfl; have f4 := frozen_of_row _ _ 4 _ _ P2.rr; have c5 := vrow_cell P2.rr (j := 5) (v := .int .i64 0) rfl; have f5 := frozen_of_row _ _ 5 _ _ P2.rr; have c6 := vrow_cell P2.rr (j := 6) (v := .int .i64 0) rfl; have f6 := frozen_of_row _ _ 6 _ _ P2.rr; have c7 := vrow_cell P2.rr (j := 7) (v := .int .i64 0) rfl; have f7 := frozen_of_row _ _ 7 _ _ P2.rr; have PP := hide P2; clear P2) | (go_at_call 95; (with_reducible refine (next_nx _ _ (nx_set4 (unhide PP))).mono ?_); rintro e wq ⟨rfl, P2⟩; clear c1 f1 c2 f2 c3 f3 c4 f4 c5 f5 c6 f6 c7 f7; have c5 := vrow_cell P2.rr (j := 5) (v := .int .i64 0) rfl; have f5 := frozen_of_row _ _ 5 _ _ P2.rr; have c6 := vrow_cell P2.rr (j := 6) (v := .int .i64 0) rfl; have f6 := frozen_of_row _ _ 6 _ _ P2.rr; have c7 := vrow_cell P2.rr (j := 7) (v := .int .i64 0) rfl; have f7 := frozen_of_row _ _ 7 _ _ P2.rr; have PP := hide P2; clear P2) | (go_at_call 95; (with_reducible refine (next_nx _ _ (unhide PP)).mono ?_); rintro e wq ⟨rfl, P2⟩; clear c5 f5 c6 f6 c7 f7; have c5 := vrow_cell P2.rr (j := 5) (v := .int .i64 0) rfl; have f5 := frozen_of_row _ _ 5 _ _ P2.rr; have c6 := vrow_cell P2.rr (j := 6) (v := .int .i64 0) rfl; have f6 := frozen_of_row _ _ 6 _ _ P2.rr; have c7 := vrow_cell P2.rr (j := 7) (v := .int .i64 0) rfl; have f7 := frozen_of_row _ _ 7 _ _ P2.rr; have PP := hide P2; clear P2) | (with_reducible show wpList Tryz.prog _ _ (Oper.mk _ (Op.load 30 _) _ _ _ none :: _) _ _; refine wpList_load_row rfl _ (.tmp 2) rfl w.heap.size rfl _ #[.bool false, .int .i64 (nxA l 4), .int .i64 (nxA (nxS l 4) 2), .int .i64 (nxA (nxS (nxS l 4) 2) 2), .int .i64 (nxA (nxS (nxS (nxS l 4) 2) 2) 2), .int .i64 (nxA (nxS (nxS (nxS (nxS l 4) 2) 2) 2) 2), .int .i64 (nxA (nxS (nxS (nxS (nxS (nxS l 4) 2) 2) 2) 2) 2), .int .i64 (nxA (nxS (nxS (nxS (nxS (nxS (nxS l 4) 2) 2) 2) 2) 2) 6)] (0, 0) _ (nx_set3 (unhide PP)).rr Tryz.underlying30 rfl (unhide SD) ?_) | (with_reducible show wpList Tryz.prog _ _ (Oper.mk _ (Op.store 30 _ _) _ _ _ none :: _) _ _; refine wpList_stG rfl _ (.tmp 2) (.tmp 28) rfl w.heap.size #[.bool false, .int .i64 (nxA l 4), .int .i64 (nxA (nxS l 4) 2), .int .i64 (nxA (nxS (nxS l 4) 2) 2), .int .i64 (nxA (nxS (nxS (nxS l 4) 2) 2) 2), .int .i64 (nxA (nxS (nxS (nxS (nxS l 4) 2) 2) 2) 2), .int .i64 (nxA (nxS (nxS (nxS (nxS (nxS l 4) 2) 2) 2) 2) 2), .int .i64 (nxA (nxS (nxS (nxS (nxS (nxS (nxS l 4) 2) 2) 2) 2) 2) 6)] #[.bool false, .int .i64 (nxA l 4), .int .i64 (nxA (nxS l 4) 2), .int .i64 (nxA (nxS (nxS l 4) 2) 2), .int .i64 (nxA (nxS (nxS (nxS l 4) 2) 2) 2), .int .i64 (nxA (nxS (nxS (nxS (nxS l 4) 2) 2) 2) 2), .int .i64 (nxA (nxS (nxS (nxS (nxS (nxS l 4) 2) 2) 2) 2) 2), .int .i64 (nxA (nxS (nxS (nxS (nxS (nxS (nxS l 4) 2) 2) 2) 2) 2) 6)] rfl rfl (nx_set3 (unhide PP)).rr (unhide SD) rfl (unhide OD) ?_; intro w8 r8 g8 s8; have R8 := hide r8; have B8 := hide (gb_below' (nx_set3 (unhide PP)).bl g8 (Nat.le_refl _)); clear r8 g8 s8))
  refine bodyPost_ret (results_cell_row rfl _ _ w.heap.size _ _ _ _ rfl (unhide R8) Tryz.underlying30 rfl (unhide SD)) rfl ?_
  exact ⟨rfl, unhide B8⟩

set_option maxHeartbeats 1000000 in
set_option maxRecDepth 100000 in
theorem guessTime_any (s : ByteArray) (w : World) (hv : VarZ w) (hs : s.size ≤ 1099511627776) : Calls Tryz.prog 59 #[.string s] w fun e w' => e = .returned (.agg (whC (gsT s.data.toList))) ∧ Below w.heap.size w w' := by
  have cP := hide (fun wx => Tryz.strings_CutPrefix s (tb [45]) wx)
  rw [tb_data] at cP
  unfold gsT
  simp only
  have hll : (Lib.trimPrefix s.data.toList [45]).length ≤ s.size := by
    unfold Lib.trimPrefix
    split <;> simp
  obtain ⟨l, hl⟩ : ∃ z, z = Lib.trimPrefix s.data.toList [45] := ⟨_, rfl⟩
  rw [← hl] at hll ⊢ cP
  rw [show (⟨l.toArray⟩ : ByteArray) = tb l from rfl] at cP
  generalize Lib.hasPrefix s.data.toList [45] = NG at *
  have cI := hide (fun wx => Tryz.strings_Index_one (tb l) 58 wx)
  rw [tb_data] at cI
  rw [show (tb [45]) = ⟨#[45]⟩ from rfl] at cP
  generalize Lib.indexByte l 58 = IX at *
  unfold whC
  simp only
  have q24 := w24 (nxA_bd l IX)
  obtain ⟨w1, hw1⟩ : ∃ z, z = (w.alloc (.cells #[.bool false, .int .i64 0, .int .i64 0, .int .i64 0, .int .i64 0, .int .i64 0, .int .i64 0, .int .i64 0] 30)).alloc (.cells #[.string (tb l)] 120) := ⟨_, rfl⟩
  have P0 : Nx w l #[.bool false, .int .i64 0, .int .i64 0, .int .i64 0, .int .i64 0, .int .i64 0, .int .i64 0, .int .i64 0] w1 := by
    have r2 := heap_alloc_new (w.alloc (.cells #[.bool false, .int .i64 0, .int .i64 0, .int .i64 0, .int .i64 0, .int .i64 0, .int .i64 0, .int .i64 0] 30)) (.cells #[.string (tb l)] 120)
    rw [show (w.alloc (.cells #[.bool false, .int .i64 0, .int .i64 0, .int .i64 0, .int .i64 0, .int .i64 0, .int .i64 0, .int .i64 0] 30)).heap.size = w.heap.size + 1 by simp] at r2
    rw [hw1]
    exact ⟨vrow_later (heap_alloc_new w _) (below_alloc _ _), r2, vbup (below_alloc w _) (below_alloc _ _), hv, by omega⟩
  have c0 := vrow_cell P0.rr (j := 0) (v := .bool false) rfl; have f0 := frozen_of_row _ _ 0 _ _ P0.rr; have c3 := vrow_cell P0.rr (j := 3) (v := .int .i64 0) rfl; have f3 := frozen_of_row _ _ 3 _ _ P0.rr; have c4 := vrow_cell P0.rr (j := 4) (v := .int .i64 0) rfl; have f4 := frozen_of_row _ _ 4 _ _ P0.rr; have c5 := vrow_cell P0.rr (j := 5) (v := .int .i64 0) rfl; have f5 := frozen_of_row _ _ 5 _ _ P0.rr; have c6 := vrow_cell P0.rr (j := 6) (v := .int .i64 0) rfl; have f6 := frozen_of_row _ _ 6 _ _ P0.rr; have c7 := vrow_cell P0.rr (j := 7) (v := .int .i64 0) rfl; have f7 := frozen_of_row _ _ 7 _ _ P0.rr
  have SD := hide (show (Tryz.prog.info? 30).map (·.size) = some (#[.bool NG, .int .i64 0, .int .i64 0, .int .i64 ((nxA l IX).tdiv 24), .int .i64 ((nxA l IX).tmod 24), .int .i64 (nxA (nxS l IX) 2), .int .i64 (nxA (nxS (nxS l IX) 2) 2), .int .i64 (nxA (nxS (nxS (nxS l IX) 2) 2) 6)] : Array Value).size by kernel_rfl)
  have OD := hide (show (#[.bool NG, .int .i64 0, .int .i64 0, .int .i64 ((nxA l IX).tdiv 24), .int .i64 ((nxA l IX).tmod 24), .int .i64 (nxA (nxS l IX) 2), .int .i64 (nxA (nxS (nxS l IX) 2) 2), .int .i64 (nxA (nxS (nxS (nxS l IX) 2) 2) 6)] : Array Value).all (·.oneCell') = true from oneW _ _ _ _ _ _ _ _)
  have PP := hide P0
  have HW := hide (show (w.alloc (.cells #[.bool false, .int .i64 0, .int .i64 0, .int .i64 0, .int .i64 0, .int .i64 0, .int .i64 0, .int .i64 0] 30)).alloc (.cells #[.string (tb l)] 120) = w1 from hw1.symm)
  clear hw1 P0 hl hs hv hll
  go_enter Tryz.func59, Tryz.ntmps59
  go_upto_region 3 with (go_at_call 96; refine same_world (unhide cP _) ?_)
  rw [unhide HW]
  go_wp2_with (first | (go_at_call 97; refine same_world (unhide cI _) ?_) | (go_at_call 95; (with_reducible refine (next_nx _ _ (unhide PP)).mono ?_); rintro e wq ⟨rfl, P2⟩; clear c0 f0 c3 f3 c4 f4 c5 f5 c6 f6 c7 f7; have c0 := vrow_cell P2.rr (j := 0) (v := .bool false) rfl; have f0 := frozen_of_row _ _ 0 _ _ P2.rr; have c3 := vrow_cell P2.rr (j := 3) (v := .int .i64 0) rfl; have f3 := frozen_of_row _ _ 3 _ _ P2.rr; have c4 := vrow_cell P2.rr (j := 4) (v := .int .i64 0) rfl; have f4 := frozen_of_row _ _ 4 _ _ P2.rr; have c5 := vrow_cell P2.rr (j := 5) (v := .int .i64 0) rfl; have f5 := frozen_of_row _ _ 5 _ _ P2.rr; have c6 := vrow_cell P2.rr (j := 6) (v := .int .i64 0) rfl; have f6 := frozen_of_row _ _ 6 _ _ P2.rr; have c7 := vrow_cell P2.rr (j := 7) (v := .int .i64 0) rfl; have f7 := frozen_of_row _ _ 7 _ _ P2.rr; have PP := hide P2; clear P2) | (go_at_call 95; (with_reducible refine (next_nx _ _ (nx_setT (unhide PP))).mono ?_); rintro e wq ⟨rfl, P2⟩; clear c0 f0 c3 f3 c4 f4 c5 f5 c6 f6 c7 f7; have c5 := vrow_cell P2.rr (j := 5) (v := .int .i64 0) rfl; have f5 := frozen_of_row _ _ 5 _ _ P2.rr; have c6 := vrow_cell P2.rr (j := 6) (v := .int .i64 0) rfl; have f6 := frozen_of_row _ _ 6 _ _ P2.rr; have c7 := vrow_cell P2.rr (j := 7) (v := .int .i64 0) rfl; have f7 := frozen_of_row _ _ 7 _ _ P2.rr; have PP := hide P2; clear P2) | (go_at_call 95; (with_reducible refine (next_nx _ _ (unhide PP)).mono ?_); rintro e wq ⟨rfl, P2⟩; clear c5 f5 c6 f6 c7 f7; have c5 := vrow_cell P2.rr (j := 5) (v := .int .i64 0) rfl; have f5 := frozen_of_row _ _ 5 _ _ P2.rr; have c6 := vrow_cell P2.rr (j := 6) (v := .int .i64 0) rfl; have f6 := frozen_of_row _ _ 6 _ _ P2.rr; have c7 := vrow_cell P2.rr (j := 7) (v := .int .i64 0) rfl; have f7 := frozen_of_row _ _ 7 _ _ P2.rr; have PP := hide P2; clear P2) | (with_reducible show wpList Tryz.prog _ _ (Oper.mk _ (Op.load 30 _) _ _ _ none :: _) _ _; refine wpList_load_row rfl _ (.tmp 2) rfl w.heap.size rfl _ #[.bool NG, .int .i64 0, .int .i64 0, .int .i64 ((nxA l IX).tdiv 24), .int .i64 ((nxA l IX).tmod 24), .int .i64 (nxA (nxS l IX) 2), .int .i64 (nxA (nxS (nxS l IX) 2) 2), .int .i64 (nxA (nxS (nxS (nxS l IX) 2) 2) 6)] (0, 0) _ (nx_set3 (unhide PP)).rr Tryz.underlying30 rfl (unhide SD) ?_) | (with_reducible show wpList Tryz.prog _ _ (Oper.mk _ (Op.store 30 _ _) _ _ _ none :: _) _ _; refine wpList_stG rfl _ (.tmp 2) (.tmp 36) rfl w.heap.size #[.bool NG, .int .i64 0, .int .i64 0, .int .i64 ((nxA l IX).tdiv 24), .int .i64 ((nxA l IX).tmod 24), .int .i64 (nxA (nxS l IX) 2), .int .i64 (nxA (nxS (nxS l IX) 2) 2), .int .i64 (nxA (nxS (nxS (nxS l IX) 2) 2) 6)] #[.bool NG, .int .i64 0, .int .i64 0, .int .i64 ((nxA l IX).tdiv 24), .int .i64 ((nxA l IX).tmod 24), .int .i64 (nxA (nxS l IX) 2), .int .i64 (nxA (nxS (nxS l IX) 2) 2), .int .i64 (nxA (nxS (nxS (nxS l IX) 2) 2) 6)] rfl rfl (nx_set3 (unhide PP)).rr (unhide SD) rfl (unhide OD) ?_; intro w8 r8 g8 s8; have R8 := hide r8; have B8 := hide (gb_below' (nx_set3 (unhide PP)).bl g8 (Nat.le_refl _)); clear r8 g8 s8))
  refine bodyPost_ret (results_cell_row rfl _ _ w.heap.size _ _ _ _ rfl (unhide R8) Tryz.underlying30 rfl (unhide SD)) rfl ?_
  exact ⟨rfl, unhide B8⟩


end Go.Proofs.YtgldbainhncneaaGreatDoor
