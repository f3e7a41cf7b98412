/-
  The document's own answer for replies: what was prepared. Conditions: the slices can be read; numbers within their kinds; lengths below 2 to the 40.
-/
import Derived.Test.YtkijdkbkbelliaaRyRf
import Derived.Deep.RegionHeld3
import Derived.BigQuiet
import Derived.BigRegion
namespace Go.Proofs.Ytkijdkbkbelliaa
open Go.RowKit Go.Shelf
set_option linter.unusedVariables false
set_option linter.unusedSimpArgs false

set_option maxHeartbeats 8000000 in
set_option maxRecDepth 100000 in
theorem appendPrepared_ref (bo : Option Addr) (bn bc : Nat) (b : List Int) (p : Pr) (w : World) (hb : Bs w bo bn bc b) (hK : PrK p) (hsz : b.length + 100 ≤ 1099511627776) :
    Calls Try.prog 27 #[.slice bo bn bc, .agg #[.int .u32 p.id, .int .u16 p.co, .int .u16 p.pa, .int .u16 p.wa]] w fun e w' => OutB w (b ++ prB p) e w' := by
  obtain ⟨w1, hw1⟩ : ∃ z, z = w.alloc (.cells #[.int .u32 p.id, .int .u16 p.co, .int .u16 p.pa, .int .u16 p.wa] 48) := ⟨_, rfl⟩
  have b1 := below_alloc w (.cells #[.int .u32 p.id, .int .u16 p.co, .int .u16 p.pa, .int .u16 p.wa] 48)
  have k0 : w1.cell? ⟨w.heap.size, 0, none⟩ = some (.int .u32 p.id) := by rw [hw1]; exact cell_top w _ _ 0 _ rfl
  have k1 : w1.cell? ⟨w.heap.size, 1, none⟩ = some (.int .u16 p.co) := by rw [hw1]; exact cell_top w _ _ 1 _ rfl
  have k2 : w1.cell? ⟨w.heap.size, 2, none⟩ = some (.int .u16 p.pa) := by rw [hw1]; exact cell_top w _ _ 2 _ rfl
  have k3 : w1.cell? ⟨w.heap.size, 3, none⟩ = some (.int .u16 p.wa) := by rw [hw1]; exact cell_top w _ _ 3 _ rfl
  have hlt : w.heap.size < w1.heap.size := by rw [hw1]; simp
  rw [← hw1] at b1
  have hbl := hb.len
  have BB1 := hide (hb.later b1)
  have B1 := hide b1
  have HW1 := hide hw1
  have eid : IntKind.u64.wrap p.id = p.id := by have := hK.id; rw [IntKind.wrap_u64]; omega
  have eco : IntKind.u64.wrap p.co = p.co := by have := hK.co; rw [IntKind.wrap_u64]; omega
  have epa : IntKind.u64.wrap p.pa = p.pa := by have := hK.pa; rw [IntKind.wrap_u64]; omega
  have ewa : IntKind.u64.wrap p.wa = p.wa := by have := hK.wa; rw [IntKind.wrap_u64]; omega
  obtain ⟨l1, hl1⟩ : ∃ z, z = b ++ [0] := ⟨_, rfl⟩
  have ml1 : l1.length ≤ b.length + 1 := by rw [hl1]; simp
  obtain ⟨l2, hl2⟩ : ∃ z, z = l1 ++ le p.id 4 := ⟨_, rfl⟩
  have ml2 : l2.length ≤ l1.length + 4 := by rw [hl2, List.length_append, le_length]; exact Nat.le_refl _
  obtain ⟨l3, hl3⟩ : ∃ z, z = l2 ++ le p.co 2 := ⟨_, rfl⟩
  have ml3 : l3.length ≤ l2.length + 2 := by rw [hl3, List.length_append, le_length]; exact Nat.le_refl _
  obtain ⟨l4, hl4⟩ : ∃ z, z = l3 ++ le p.pa 2 := ⟨_, rfl⟩
  have ml4 : l4.length ≤ l3.length + 2 := by rw [hl4, List.length_append, le_length]; exact Nat.le_refl _
  obtain ⟨l5, hl5⟩ : ∃ z, z = l4 ++ [0] := ⟨_, rfl⟩
  have ml5 : l5.length ≤ l4.length + 1 := by rw [hl5]; simp
  obtain ⟨l6, hl6⟩ : ∃ z, z = l5 ++ le p.wa 2 := ⟨_, rfl⟩
  have ml6 : l6.length ≤ l5.length + 2 := by rw [hl6, List.length_append, le_length]; exact Nat.le_refl _
  have HRES := hide (show b ++ prB p = l6 by subst hl1 hl2 hl3 hl4 hl5 hl6; simp only [prB, List.append_assoc])
  have cX := hide (fixed_rx l1 p.id (IntKind.u64.wrap p.id) 4 4 4294967296 eid rfl hK.id (by decide) (by omega) (by omega) (by omega) (by omega))
  rw [← hl2] at cX
  have cY := hide (fixed_rx l2 p.co (IntKind.u64.wrap p.co) 2 2 65536 eco rfl hK.co (by decide) (by omega) (by omega) (by omega) (by omega))
  rw [← hl3] at cY
  have cZ := hide (fixed_rx l3 p.pa (IntKind.u64.wrap p.pa) 2 2 65536 epa rfl hK.pa (by decide) (by omega) (by omega) (by omega) (by omega))
  rw [← hl4] at cZ
  have cW := hide (fixed_rx l5 p.wa (IntKind.u64.wrap p.wa) 2 2 65536 ewa rfl hK.wa (by decide) (by omega) (by omega) (by omega) (by omega))
  rw [← hl6] at cW
  rw [ewa] at cW
  have KC := hide (fun (w' : World) (hb : Below w1.heap.size w1 w') => (show w'.cell? ⟨w.heap.size, 0, none⟩ = some (.int .u32 p.id) ∧ w'.cell? ⟨w.heap.size, 1, none⟩ = some (.int .u16 p.co) ∧ w'.cell? ⟨w.heap.size, 2, none⟩ = some (.int .u16 p.pa) ∧ w'.cell? ⟨w.heap.size, 3, none⟩ = some (.int .u16 p.wa) from ⟨(hb.cell (p := ⟨w.heap.size, 0, none⟩) hlt).trans k0, (hb.cell (p := ⟨w.heap.size, 1, none⟩) hlt).trans k1, (hb.cell (p := ⟨w.heap.size, 2, none⟩) hlt).trans k2, (hb.cell (p := ⟨w.heap.size, 3, none⟩) hlt).trans k3⟩))
  have HL1 := hide hl1
  have HL5 := hide hl5
  have hbn : bn + 100 ≤ 1099511627776 := by omega
  have LN := hide (show l4.length ≤ bn + 20 by omega)
  have hwa1 := hK.wa.1
  have hwa2 := hK.wa.2
  clear hb hK b1 hw1 eid eco epa ewa hl1 hl2 hl3 hl4 hl5 hl6 hbl hsz ml1 ml2 ml3 ml4 ml5 ml6
  generalize b ++ prB p = RR at *
  go_enter Try.func27, Try.ntmps27
  go_upto_region 1 with fail
  rw [← unhide HW1]
  go_cut [5] (fun v wx => ∃ ao n c, v = .slice ao n c ∧ Mine w1.heap.size wx ao n c l2 ∧ Below w1.heap.size w1 wx)
  case first =>
    have bW_a : Below w1.heap.size w1 ((w1.alloc (.cells #[] 5)).drew) := (below_alloc w1 _).drew
    have hR_a : ((w1.alloc (.cells #[] 5)).drew).heap[w1.heap.size]? = some (.cells #[] 5 (0, 0)) := heap_alloc_new w1 _
    have hW_a : w1.heap.size ≤ ((w1.alloc (.cells #[] 5)).drew).heap.size := bW_a.size
    have MA_a := hide (mine_row0 (B := w1.heap.size) hR_a (by omega))
    have BA_a := hide ((unhide BB1).later bW_a)
    have BW_a := hide bW_a
    have bW_b : Below w1.heap.size w1 (((w1.alloc (.cells #[] 5)).alloc (.cells #[.int .u8 0] 5)).drew) := (Below.alloc (below_alloc w1 _) (by simp) _).drew
    have hO_b : (((w1.alloc (.cells #[] 5)).alloc (.cells #[.int .u8 0] 5)).drew).heap[w1.heap.size]? = some (.cells #[] 5) := heap_alloc2_old w1 _ _
    have hN_b : (((w1.alloc (.cells #[] 5)).alloc (.cells #[.int .u8 0] 5)).drew).heap[w1.heap.size + 1]? = some (.cells #[.int .u8 0] 5) := heap_alloc2_new w1 _ _
    have hR_b := hO_b
    have RC_b := hide hN_b
    have hW_b : w1.heap.size ≤ (((w1.alloc (.cells #[] 5)).alloc (.cells #[.int .u8 0] 5)).drew).heap.size := bW_b.size
    have MA_b := hide (mine_row0 (B := w1.heap.size) hR_b (by omega))
    have BA_b := hide ((unhide BB1).later bW_b)
    have BW_b := hide bW_b
    have zW_b : w1.heap.size + 1 < (((w1.alloc (.cells #[] 5)).alloc (.cells #[.int .u8 0] 5)).drew).heap.size := (Array.getElem?_eq_some_iff.1 (unhide RC_b)).1
    have bW_c : Below w1.heap.size w1 (((w1.alloc (.cells #[.int .u8 0] 5)).alloc (.cells #[] 5)).drew) := (Below.alloc (below_alloc w1 _) (by simp) _).drew
    have hO_c : (((w1.alloc (.cells #[.int .u8 0] 5)).alloc (.cells #[] 5)).drew).heap[w1.heap.size]? = some (.cells #[.int .u8 0] 5) := heap_alloc2_old w1 _ _
    have hN_c : (((w1.alloc (.cells #[.int .u8 0] 5)).alloc (.cells #[] 5)).drew).heap[w1.heap.size + 1]? = some (.cells #[] 5) := heap_alloc2_new w1 _ _
    have hR_c := hN_c
    have RC_c := hide hO_c
    have hW_c : w1.heap.size ≤ (((w1.alloc (.cells #[.int .u8 0] 5)).alloc (.cells #[] 5)).drew).heap.size := bW_c.size
    have MA_c := hide (mine_row0 (B := w1.heap.size) hR_c (by omega))
    have BA_c := hide ((unhide BB1).later bW_c)
    have BW_c := hide bW_c
    have zW_c : w1.heap.size < (((w1.alloc (.cells #[.int .u8 0] 5)).alloc (.cells #[] 5)).drew).heap.size := (Array.getElem?_eq_some_iff.1 (unhide RC_c)).1
    clear bW_a bW_b bW_c hR_a hR_b hR_c hO_b hN_b hO_c hN_c
    go_wp2_with fail
    go_region_held3 (fun w' => w'.cell? ⟨w.heap.size, 0, none⟩ = some (.int .u32 p.id) ∧ w'.cell? ⟨w.heap.size, 1, none⟩ = some (.int .u16 p.co) ∧ w'.cell? ⟨w.heap.size, 2, none⟩ = some (.int .u16 p.pa) ∧ w'.cell? ⟨w.heap.size, 3, none⟩ = some (.int .u16 p.wa)) (first | exact unhide KC _ b6 | exact unhide KC _ b5 | exact unhide KC _ b3 | exact unhide KC _ b2 | (refine unhide KC _ ?_; (repeat' (first | with_reducible exact b2 | with_reducible exact b3 | with_reducible exact b5 | with_reducible exact Below.refl _ _ | with_reducible refine Below.drew ?_ | with_reducible refine Below.alloc ?_ ?_ _ | exact Nat.le_refl _ | exact b2.size | exact b3.size | omega | (simp; done) | (simp; omega))); done) | go_keep) (first | (refine step_appK rfl (.tmp 6) (.tmp 7) rfl w1.heap.size (some ⟨w1.heap.size, 0, none⟩) 0 0 [] (by simp [Act.eval, Act.put]) (unhide MA_a) bo bn bc b (by simp [Act.eval, Act.put]) (unhide BA_a) (by omega) hW_a ?_; intro ao2 c2 w2 m2 g2; rw [Nat.zero_add, List.nil_append] at m2; have b2 := (unhide BW_a).trans (mine_grown (unhide MA_a) hW_a g2)) | (refine step_appK rfl (.tmp 6) (.tmp 7) rfl w1.heap.size (some ⟨w1.heap.size, 0, none⟩) 0 0 [] (by simp [Act.eval, Act.put]) (unhide MA_b) bo bn bc b (by simp [Act.eval, Act.put]) (unhide BA_b) (by omega) hW_b ?_; intro ao2 c2 w2 m2 g2; rw [Nat.zero_add, List.nil_append] at m2; have b2 := (unhide BW_b).trans (mine_grown (unhide MA_b) hW_b g2); have r2b := bs_row1 ((g2.block (w1.heap.size + 1) zW_b (by simp [Value.ownBlock])).trans (unhide RC_b)) (by omega) (by omega)) | (refine step_appK rfl (.tmp 6) (.tmp 7) rfl w1.heap.size (some ⟨w1.heap.size + 1, 0, none⟩) 0 0 [] (by simp [Act.eval, Act.put]) (unhide MA_c) bo bn bc b (by simp [Act.eval, Act.put]) (unhide BA_c) (by omega) hW_c ?_; intro ao2 c2 w2 m2 g2; rw [Nat.zero_add, List.nil_append] at m2; have b2 := (unhide BW_c).trans (mine_grown (unhide MA_c) hW_c g2); have r2c := bs_row1 ((g2.block (w1.heap.size) zW_c (by simp [Value.ownBlock])).trans (unhide RC_c)) (by omega) (by omega)) | (refine step_appK rfl (.tmp 8) (.tmp 9) rfl w1.heap.size ao2 bn c2 b (by simp [Act.eval, Act.put]) (m2.later (Below.drew (below_alloc w2 (.cells #[.int .u8 0] 5)))) (some ⟨w2.heap.size, 0, none⟩) 1 1 [0] (by simp [Act.eval, Act.put]) ((Bs.one w2 0 (by omega) (by omega)).later (below_drew _)) (by omega) (Nat.le_trans b2.size (Below.drew (below_alloc w2 (.cells #[.int .u8 0] 5))).size) ?_; intro ao3 c3 w3 m3 g3; rw [← unhide HL1] at m3; have b3 := b2.trans ((Below.mono (Below.drew (below_alloc w2 (.cells #[.int .u8 0] 5))) b2.size).trans (mine_grown (m2.later (Below.drew (below_alloc w2 (.cells #[.int .u8 0] 5)))) (Nat.le_trans b2.size (Below.drew (below_alloc w2 (.cells #[.int .u8 0] 5))).size) g3))) | (refine step_appK rfl (.tmp 8) (.tmp 9) rfl w1.heap.size ao2 bn c2 b (by simp [Act.eval, Act.put]) (m2.later (below_alloc w2 (.cells #[.int .u8 0] 5))) (some ⟨w2.heap.size, 0, none⟩) 1 1 [0] (by simp [Act.eval, Act.put]) (Bs.one w2 0 (by omega) (by omega)) (by omega) (Nat.le_trans b2.size (below_alloc w2 (.cells #[.int .u8 0] 5)).size) ?_; intro ao3 c3 w3 m3 g3; rw [← unhide HL1] at m3; have b3 := b2.trans ((Below.mono (below_alloc w2 (.cells #[.int .u8 0] 5)) b2.size).trans (mine_grown (m2.later (below_alloc w2 (.cells #[.int .u8 0] 5))) (Nat.le_trans b2.size (below_alloc w2 (.cells #[.int .u8 0] 5)).size) g3))) | (refine step_appK rfl (.tmp 8) (.tmp 9) rfl w1.heap.size ao2 bn c2 b (by simp [Act.eval, Act.put]) (m2.later (below_drew w2)) (some ⟨w1.heap.size + 1, 0, none⟩) 1 1 [0] (by simp [Act.eval, Act.put]) (r2b.later (below_drew w2)) (by omega) (Nat.le_trans b2.size (below_drew w2).size) ?_; intro ao3 c3 w3 m3 g3; rw [← unhide HL1] at m3; have b3 := b2.trans ((Below.mono (below_drew w2) b2.size).trans (mine_grown (m2.later (below_drew w2)) (Nat.le_trans b2.size (below_drew w2).size) g3))) | (refine step_appK rfl (.tmp 8) (.tmp 9) rfl w1.heap.size ao2 bn c2 b (by simp [Act.eval, Act.put]) m2 (some ⟨w1.heap.size + 1, 0, none⟩) 1 1 [0] (by simp [Act.eval, Act.put]) r2b (by omega) (Nat.le_trans b2.size (Below.refl w2.heap.size w2).size) ?_; intro ao3 c3 w3 m3 g3; rw [← unhide HL1] at m3; have b3 := b2.trans ((Below.mono (Below.refl w2.heap.size w2) b2.size).trans (mine_grown m2 (Nat.le_trans b2.size (Below.refl w2.heap.size w2).size) g3))) | (refine step_appK rfl (.tmp 8) (.tmp 9) rfl w1.heap.size ao2 bn c2 b (by simp [Act.eval, Act.put]) (m2.later (below_drew w2)) (some ⟨w1.heap.size, 0, none⟩) 1 1 [0] (by simp [Act.eval, Act.put]) (r2c.later (below_drew w2)) (by omega) (Nat.le_trans b2.size (below_drew w2).size) ?_; intro ao3 c3 w3 m3 g3; rw [← unhide HL1] at m3; have b3 := b2.trans ((Below.mono (below_drew w2) b2.size).trans (mine_grown (m2.later (below_drew w2)) (Nat.le_trans b2.size (below_drew w2).size) g3))) | (refine step_appK rfl (.tmp 8) (.tmp 9) rfl w1.heap.size ao2 bn c2 b (by simp [Act.eval, Act.put]) m2 (some ⟨w1.heap.size, 0, none⟩) 1 1 [0] (by simp [Act.eval, Act.put]) r2c (by omega) (Nat.le_trans b2.size (Below.refl w2.heap.size w2).size) ?_; intro ao3 c3 w3 m3 g3; rw [← unhide HL1] at m3; have b3 := b2.trans ((Below.mono (Below.refl w2.heap.size w2) b2.size).trans (mine_grown m2 (Nat.le_trans b2.size (Below.refl w2.heap.size w2).size) g3))) | (go_at_call 74; with_reducible show Calls Try.prog 74 #[.slice ao3 _ c3, .int .u64 (IntKind.u64.wrap p.id), _] w3 _; refine (unhide cX w3 ao3 _ c3 (m3.bs)).mono ?_; rintro e w5 ⟨ao5, n5, c5, rfl, m5, b50⟩; have b5 := b3.trans (Below.mono (b50) b3.size)) | (go_at_call 74; with_reducible show Calls Try.prog 74 #[.slice ao3 _ c3, .int .u64 (IntKind.u64.wrap p.id), _] w3.drew _; refine (unhide cX w3.drew ao3 _ c3 (m3.bs.later (below_drew w3))).mono ?_; rintro e w5 ⟨ao5, n5, c5, rfl, m5, b50⟩; have b5 := b3.trans (Below.mono ((below_drew w3).trans b50) b3.size)))
    all_goals have MQ := hide (m5.mono (B' := w1.heap.size) b3.size)
    all_goals have BQ := hide b5
    all_goals clear m5 b5
    all_goals go_wp2_with fail
    all_goals go_meet
    all_goals exact ⟨_, _, _, rfl, unhide MQ, unhide BQ⟩
  obtain ⟨ao5, n5, c5, rfl, m5, b5⟩ := hcut
  have m5 := m5
  go_upto_region 2 with fail
  go_cut [5] (fun v wx => ∃ ao n c, v = .slice ao n c ∧ Mine w1.heap.size wx ao n c l5 ∧ Below w1.heap.size w1 wx)
  case first =>
    go_wp2_with fail
    go_region_held3 (fun w' => w'.cell? ⟨w.heap.size, 0, none⟩ = some (.int .u32 p.id) ∧ w'.cell? ⟨w.heap.size, 1, none⟩ = some (.int .u16 p.co) ∧ w'.cell? ⟨w.heap.size, 2, none⟩ = some (.int .u16 p.pa) ∧ w'.cell? ⟨w.heap.size, 3, none⟩ = some (.int .u16 p.wa)) (first | exact unhide KC _ b8 | exact unhide KC _ b7 | exact unhide KC _ b6 | exact unhide KC _ b5 | (refine unhide KC _ ?_; (repeat' (first | with_reducible exact b8 | with_reducible exact b7 | with_reducible exact b6 | with_reducible exact b5 | with_reducible exact Below.refl _ _ | with_reducible refine Below.drew ?_ | with_reducible refine Below.alloc ?_ ?_ _ | exact Nat.le_refl _ | exact b8.size | exact b7.size | exact b6.size | exact b5.size | omega | (simp; done) | (simp; omega))); done) | go_keep) (first | (go_at_call 74; with_reducible show Calls Try.prog 74 #[.slice ao5 _ c5, .int .u64 (IntKind.u64.wrap p.co), _] _ _; refine (unhide cY _ ao5 _ c5 m5.bs).mono ?_; rintro e w6 ⟨ao6, n6, c6, rfl, m6, b60⟩; have b6 := Below.trans b5 (b60.mono (Below.size b5)); have m6 := m6.mono (Below.size b5)) | (go_at_call 74; with_reducible show Calls Try.prog 74 #[.slice ao5 _ c5, .int .u64 (IntKind.u64.wrap p.co), _] _ _; refine (unhide cY _ ao5 _ c5 (m5.bs.later (below_drew _))).mono ?_; rintro e w6 ⟨ao6, n6, c6, rfl, m6, b60⟩; have b6 := Below.trans (Below.drew b5) (b60.mono (Below.size (Below.drew b5))); have m6 := m6.mono (Below.size (Below.drew b5))) | (go_at_call 74; with_reducible show Calls Try.prog 74 #[.slice ao5 _ c5, .int .u64 (IntKind.u64.wrap p.co), _] _ _; refine (unhide cY _ ao5 _ c5 (m5.bs.later (below_alloc _ (.cells #[.int .u8 0] 5)))).mono ?_; rintro e w6 ⟨ao6, n6, c6, rfl, m6, b60⟩; have b6 := Below.trans (Below.alloc b5 (Below.size b5) (.cells #[.int .u8 0] 5)) (b60.mono (Below.size (Below.alloc b5 (Below.size b5) (.cells #[.int .u8 0] 5)))); have m6 := m6.mono (Below.size (Below.alloc b5 (Below.size b5) (.cells #[.int .u8 0] 5))); have r6 := (Bs.one _ 0 (by omega) (by omega)).later b60) | (go_at_call 74; with_reducible show Calls Try.prog 74 #[.slice ao5 _ c5, .int .u64 (IntKind.u64.wrap p.co), _] _ _; refine (unhide cY _ ao5 _ c5 (m5.bs.later (Below.drew (below_alloc _ (.cells #[.int .u8 0] 5))))).mono ?_; rintro e w6 ⟨ao6, n6, c6, rfl, m6, b60⟩; have b6 := Below.trans (Below.drew (Below.alloc b5 (Below.size b5) (.cells #[.int .u8 0] 5))) (b60.mono (Below.size (Below.drew (Below.alloc b5 (Below.size b5) (.cells #[.int .u8 0] 5))))); have m6 := m6.mono (Below.size (Below.drew (Below.alloc b5 (Below.size b5) (.cells #[.int .u8 0] 5)))); have r6 := ((Bs.one _ 0 (by omega) (by omega)).later (below_drew _)).later b60) | (go_at_call 74; with_reducible show Calls Try.prog 74 #[.slice ao6 _ c6, .int .u64 (IntKind.u64.wrap p.pa), _] _ _; refine (unhide cZ _ ao6 _ c6 m6.bs).mono ?_; rintro e w7 ⟨ao7, n7, c7, rfl, m7, b70⟩; have b7 := Below.trans b6 (b70.mono (Below.size b6)); have m7 := m7.mono (Below.size b6); have r7 := r6.later b70) | (go_at_call 74; with_reducible show Calls Try.prog 74 #[.slice ao6 _ c6, .int .u64 (IntKind.u64.wrap p.pa), _] _ _; refine (unhide cZ _ ao6 _ c6 (m6.bs.later (below_drew _))).mono ?_; rintro e w7 ⟨ao7, n7, c7, rfl, m7, b70⟩; have b7 := Below.trans (Below.drew b6) (b70.mono (Below.size (Below.drew b6))); have m7 := m7.mono (Below.size (Below.drew b6)); have r7 := (r6.later (below_drew _)).later b70) | (go_at_call 74; with_reducible show Calls Try.prog 74 #[.slice ao6 _ c6, .int .u64 (IntKind.u64.wrap p.pa), _] _ _; refine (unhide cZ _ ao6 _ c6 m6.bs).mono ?_; rintro e w7 ⟨ao7, n7, c7, rfl, m7, b70⟩; have b7 := Below.trans b6 (b70.mono (Below.size b6)); have m7 := m7.mono (Below.size b6)) | (go_at_call 74; with_reducible show Calls Try.prog 74 #[.slice ao6 _ c6, .int .u64 (IntKind.u64.wrap p.pa), _] _ _; refine (unhide cZ _ ao6 _ c6 (m6.bs.later (below_drew _))).mono ?_; rintro e w7 ⟨ao7, n7, c7, rfl, m7, b70⟩; have b7 := Below.trans (Below.drew b6) (b70.mono (Below.size (Below.drew b6))); have m7 := m7.mono (Below.size (Below.drew b6))) | (go_at_call 74; with_reducible show Calls Try.prog 74 #[.slice ao6 _ c6, .int .u64 (IntKind.u64.wrap p.pa), _] _ _; refine (unhide cZ _ ao6 _ c6 (m6.bs.later (below_alloc _ (.cells #[.int .u8 0] 5)))).mono ?_; rintro e w7 ⟨ao7, n7, c7, rfl, m7, b70⟩; have b7 := Below.trans (Below.alloc b6 (Below.size b6) (.cells #[.int .u8 0] 5)) (b70.mono (Below.size (Below.alloc b6 (Below.size b6) (.cells #[.int .u8 0] 5)))); have m7 := m7.mono (Below.size (Below.alloc b6 (Below.size b6) (.cells #[.int .u8 0] 5))); have r7 := (Bs.one _ 0 (by omega) (by omega)).later b70) | (go_at_call 74; with_reducible show Calls Try.prog 74 #[.slice ao6 _ c6, .int .u64 (IntKind.u64.wrap p.pa), _] _ _; refine (unhide cZ _ ao6 _ c6 (m6.bs.later (Below.drew (below_alloc _ (.cells #[.int .u8 0] 5))))).mono ?_; rintro e w7 ⟨ao7, n7, c7, rfl, m7, b70⟩; have b7 := Below.trans (Below.drew (Below.alloc b6 (Below.size b6) (.cells #[.int .u8 0] 5))) (b70.mono (Below.size (Below.drew (Below.alloc b6 (Below.size b6) (.cells #[.int .u8 0] 5))))); have m7 := m7.mono (Below.size (Below.drew (Below.alloc b6 (Below.size b6) (.cells #[.int .u8 0] 5)))); have r7 := ((Bs.one _ 0 (by omega) (by omega)).later (below_drew _)).later b70) | (refine step_appK rfl (.tmp 23) (.tmp 24) rfl w1.heap.size ao7 n7 c7 l4 (by simp [Act.eval, Act.put]) m7 _ 1 1 [0] (by simp [Act.eval, Act.put]) r7 (by have h7 := m7.len; have h8 := unhide LN; omega) (Below.size b7) ?_; intro ao8 c8 w8 m8 g8; rw [← unhide HL5] at m8; have b8 := Below.trans b7 (mine_grown m7 (Below.size b7) g8)) | (refine step_appK rfl (.tmp 23) (.tmp 24) rfl w1.heap.size ao7 n7 c7 l4 (by simp [Act.eval, Act.put]) (m7.later (below_drew _)) _ 1 1 [0] (by simp [Act.eval, Act.put]) (r7.later (below_drew _)) (by have h7 := m7.len; have h8 := unhide LN; omega) (Below.size (Below.drew b7)) ?_; intro ao8 c8 w8 m8 g8; rw [← unhide HL5] at m8; have b8 := Below.trans (Below.drew b7) (mine_grown (m7.later (below_drew _)) (Below.size (Below.drew b7)) g8)) | (refine step_appK rfl (.tmp 23) (.tmp 24) rfl w1.heap.size ao7 n7 c7 l4 (by simp [Act.eval, Act.put]) (m7.later (below_alloc _ (.cells #[.int .u8 0] 5))) _ 1 1 [0] (by simp [Act.eval, Act.put]) (Bs.one _ 0 (by omega) (by omega)) (by have h7 := m7.len; have h8 := unhide LN; omega) (Below.size (Below.alloc b7 (Below.size b7) (.cells #[.int .u8 0] 5))) ?_; intro ao8 c8 w8 m8 g8; rw [← unhide HL5] at m8; have b8 := Below.trans (Below.alloc b7 (Below.size b7) (.cells #[.int .u8 0] 5)) (mine_grown (m7.later (below_alloc _ (.cells #[.int .u8 0] 5))) (Below.size (Below.alloc b7 (Below.size b7) (.cells #[.int .u8 0] 5))) g8)) | (refine step_appK rfl (.tmp 23) (.tmp 24) rfl w1.heap.size ao7 n7 c7 l4 (by simp [Act.eval, Act.put]) (m7.later (Below.drew (below_alloc _ (.cells #[.int .u8 0] 5)))) _ 1 1 [0] (by simp [Act.eval, Act.put]) ((Bs.one _ 0 (by omega) (by omega)).later (below_drew _)) (by have h7 := m7.len; have h8 := unhide LN; omega) (Below.size (Below.drew (Below.alloc b7 (Below.size b7) (.cells #[.int .u8 0] 5)))) ?_; intro ao8 c8 w8 m8 g8; rw [← unhide HL5] at m8; have b8 := Below.trans (Below.drew (Below.alloc b7 (Below.size b7) (.cells #[.int .u8 0] 5))) (mine_grown (m7.later (Below.drew (below_alloc _ (.cells #[.int .u8 0] 5)))) (Below.size (Below.drew (Below.alloc b7 (Below.size b7) (.cells #[.int .u8 0] 5)))) g8)))
    all_goals have MQ := hide m8
    all_goals have BQ := hide b8
    all_goals clear m8 b8
    all_goals go_wp2_with fail
    all_goals go_meet
    all_goals exact ⟨_, _, _, rfl, unhide MQ, unhide BQ⟩
  obtain ⟨ao8, n8, c8, rfl, m8, b8⟩ := hcut
  have j3 := (b8.cell (p := ⟨w.heap.size, 3, none⟩) hlt).trans k3
  have M8 := hide m8
  have B8 := hide b8
  have hz8 := b8.size
  clear m8 b8 m5 b5
  go_wp2_with fail
  refine (unhide cW _ ao8 _ c8 (unhide M8).bs).mono ?_
  rintro e w9 ⟨ao9, n9, c9, rfl, m9, b90⟩
  have m9 := m9.mono (B' := w1.heap.size) hz8
  have b9 := (unhide B8).trans (b90.mono hz8)
  clear b90
  have MQ := hide m9
  have BQ := hide b9
  clear m9 b9
  go_wp2_with fail
  go_ret
  rw [unhide HRES]
  exact ⟨_, _, _, rfl, (unhide MQ).mono (Nat.le_of_lt hlt), (unhide B1).trans ((unhide BQ).mono (Nat.le_of_lt hlt))⟩

end Go.Proofs.Ytkijdkbkbelliaa
