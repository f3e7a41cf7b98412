/-
  The document's own answer for replies: the OK. Conditions: the slices can be read; numbers within their kinds; lengths below 2 to the 40.
-/
import Derived.Test.YtkijdkbkbelliaaRyRf
import Derived.Test.YtkijdkbkbelliaaRyKind
import Derived.Deep.CutRange
import Derived.Deep.DeepCutAuto
import Derived.Deep.RegionHeld3
import Derived.BigQuiet
import Derived.BigRegion
namespace Go.Proofs.Ytkijdkbkbelliaa
open Go.RowKit Go.Shelf
set_option linter.unusedVariables false
set_option linter.unusedSimpArgs false

set_option maxHeartbeats 8000000 in
set_option maxRecDepth 100000 in
theorem appendOk_ref (bo : Option Addr) (bn bc : Nat) (b : List Int) (c : Int) (p : Ok) (last : Bool) (xo : Option Addr) (xn xc : Nat) (w : World) (hb : Bs w bo bn bc b) (hx : Bs w xo xn xc p.tr) (hK : OkK p) (hsz : b.length + p.info.size + p.tr.length + 200 ≤ 1099511627776) :
    Calls Try.prog 21 #[.slice bo bn bc, .int .u32 c, .agg #[.int .u64 p.af, .int .u64 p.ins, .int .u16 p.st, .int .u16 p.wa, .string p.info, .slice xo xn xc], .bool last] w fun e w' => OutP w (if oOk c p = true then some (b ++ okB c last p) else none) e w' := by
  obtain ⟨w1, hw1⟩ : ∃ z, z = w.alloc (.cells #[.int .u64 p.af, .int .u64 p.ins, .int .u16 p.st, .int .u16 p.wa, .string p.info, .slice xo xn xc] 31) := ⟨_, rfl⟩
  have b1 := below_alloc w (.cells #[.int .u64 p.af, .int .u64 p.ins, .int .u16 p.st, .int .u16 p.wa, .string p.info, .slice xo xn xc] 31)
  have k0 : w1.cell? ⟨w.heap.size, 0, none⟩ = some (.int .u64 p.af) := by rw [hw1]; exact cell_top w _ _ 0 _ rfl
  have k1 : w1.cell? ⟨w.heap.size, 1, none⟩ = some (.int .u64 p.ins) := by rw [hw1]; exact cell_top w _ _ 1 _ rfl
  have k2 : w1.cell? ⟨w.heap.size, 2, none⟩ = some (.int .u16 p.st) := by rw [hw1]; exact cell_top w _ _ 2 _ rfl
  have k3 : w1.cell? ⟨w.heap.size, 3, none⟩ = some (.int .u16 p.wa) := by rw [hw1]; exact cell_top w _ _ 3 _ rfl
  have k4 : w1.cell? ⟨w.heap.size, 4, none⟩ = some (.string p.info) := by rw [hw1]; exact cell_top w _ _ 4 _ rfl
  have k5 : w1.cell? ⟨w.heap.size, 5, none⟩ = some (.slice xo xn xc) := by rw [hw1]; exact cell_top w _ _ 5 _ rfl
  have hlt : w.heap.size < w1.heap.size := by rw [hw1]; simp
  rw [← hw1] at b1
  have hbl := hb.len
  have BB1 := hide (hb.later b1)
  have B1 := hide b1
  have HW1 := hide hw1
  have est : IntKind.u64.wrap p.st = p.st := by have := hK.st; rw [IntKind.wrap_u64]; omega
  have ewa : IntKind.u64.wrap p.wa = p.wa := by have := hK.wa; rw [IntKind.wrap_u64]; omega
  have szs : (strOfNums p.tr).size = p.tr.length := by rw [show (strOfNums p.tr).size = (strOfNums p.tr).data.toList.length by simp, strOfNums_data]; simp
  have HTX := hide (show txB (strOfNums p.tr) = form p.tr.length ++ p.tr by unfold txB; rw [szs, nums_str hx.byt])
  obtain ⟨F0, hF0⟩ : ∃ z : Int, z = (if last then 254 else 0) := ⟨_, rfl⟩
  have bF0 : 0 ≤ F0 := by rw [hF0]; split <;> omega
  have bF1 : F0 ≤ 255 := by rw [hF0]; split <;> omega
  have HF0 := hide hF0
  have hxl := hx.len
  have HX := hide hx
  have hmx := hx.max
  have hle := hx.le
  obtain ⟨l1, hl1⟩ : ∃ z, z = b ++ [F0] := ⟨_, rfl⟩
  have ml1 : l1.length ≤ b.length + 1 := by rw [hl1]; simp
  obtain ⟨l2, hl2⟩ : ∃ z, z = l1 ++ form p.af := ⟨_, rfl⟩
  have ml2 : l2.length ≤ l1.length + 9 := by rw [hl2, List.length_append]; have := form_length_le p.af; omega
  obtain ⟨l3, hl3⟩ : ∃ z, z = l2 ++ form p.ins := ⟨_, rfl⟩
  have ml3 : l3.length ≤ l2.length + 9 := by rw [hl3, List.length_append]; have := form_length_le p.ins; omega
  obtain ⟨l4, hl4⟩ : ∃ z, z = l3 ++ le p.st 2 := ⟨_, rfl⟩
  have ml4 : l4.length ≤ l3.length + 2 := by rw [hl4, List.length_append, le_length]; exact Nat.le_refl _
  obtain ⟨l5, hl5⟩ : ∃ z, z = l4 ++ le p.wa 2 := ⟨_, rfl⟩
  have ml5 : l5.length ≤ l4.length + 2 := by rw [hl5, List.length_append, le_length]; exact Nat.le_refl _
  have HRS := hide (show b ++ okB c last p = l5 ++ okT c p by subst hl1 hl2 hl3 hl4 hl5 hF0; simp only [okB, List.append_assoc])
  have cX := hide (int_rx l1 p.af hK.af (by omega))
  rw [← hl2] at cX
  have cY := hide (int_rx l2 p.ins hK.ins (by omega))
  rw [← hl3] at cY
  have cZ := hide (fixed_rx l3 p.st (IntKind.u64.wrap p.st) 2 2 65536 est rfl hK.st (by decide) (by omega) (by omega) (by omega) (by omega))
  rw [← hl4] at cZ
  have cW := hide (fixed_rx l4 p.wa (IntKind.u64.wrap p.wa) 2 2 65536 ewa rfl hK.wa (by decide) (by omega) (by omega) (by omega) (by omega))
  rw [← hl5] at cW
  have cT := hide (text_rx l5 p.info (by omega))
  have cU := hide (text_rx (l5 ++ txB p.info) (strOfNums p.tr) (by rw [List.length_append, szs]; have := txB_len p.info; omega))
  have cH := hide (fun wx => track_ref c p.st wx)
  have cC := hide (fun wx => has_ref c 8388608 wx)
  have KC := hide (fun (w' : World) (hb : Below w1.heap.size w1 w') => (show w'.cell? ⟨w.heap.size, 0, none⟩ = some (.int .u64 p.af) ∧ w'.cell? ⟨w.heap.size, 1, none⟩ = some (.int .u64 p.ins) ∧ w'.cell? ⟨w.heap.size, 2, none⟩ = some (.int .u16 p.st) ∧ w'.cell? ⟨w.heap.size, 3, none⟩ = some (.int .u16 p.wa) ∧ w'.cell? ⟨w.heap.size, 4, none⟩ = some (.string p.info) ∧ w'.cell? ⟨w.heap.size, 5, none⟩ = some (.slice xo xn xc) from ⟨(hb.cell (p := ⟨w.heap.size, 0, none⟩) hlt).trans k0, (hb.cell (p := ⟨w.heap.size, 1, none⟩) hlt).trans k1, (hb.cell (p := ⟨w.heap.size, 2, none⟩) hlt).trans k2, (hb.cell (p := ⟨w.heap.size, 3, none⟩) hlt).trans k3, (hb.cell (p := ⟨w.heap.size, 4, none⟩) hlt).trans k4, (hb.cell (p := ⟨w.heap.size, 5, none⟩) hlt).trans k5⟩))
  have HL1 := hide hl1
  have hbn : bn + p.info.size + 200 ≤ 1099511627776 := by omega
  have LN := hide (show l5.length ≤ bn + 40 by omega)
  obtain ⟨RZ, hRZ⟩ : ∃ z, z = (if oOk c p = true then some (b ++ okB c last p) else none) := ⟨_, rfl⟩
  rw [← hRZ]
  have HRZ := hide hRZ
  have c2 := cell_top w #[.int .u64 p.af, .int .u64 p.ins, .int .u16 p.st, .int .u16 p.wa, .string p.info, .slice xo xn xc] 31 2 _ rfl
  have c5 := cell_top w #[.int .u64 p.af, .int .u64 p.ins, .int .u16 p.st, .int .u16 p.wa, .string p.info, .slice xo xn xc] 31 5 _ rfl
  clear hb hK b1 hw1 est ewa szs hF0 hx hl1 hl2 hl3 hl4 hl5 hbl hsz hRZ ml1 ml2 ml3 ml4 ml5
  generalize b ++ okB c last p = RR at *
  go_enter Try.func21, Try.ntmps21
  go_upto_region 1 with fail
  go_cut [22] (fun v wx => v = .bool (!oOk c p) ∧ wx = w1)
  case first =>
    by_cases q : xn = 0
    · have e0 : oOk c p = true := by unfold oOk; rw [List.eq_nil_of_length_eq_zero (hxl.trans q)]; rfl
      have E0 := hide e0
      subst q
      clear e0 hxl
      go_wp2_with fail
      go_meet
      rw [unhide E0]
      exact ⟨rfl, (unhide HW1).symm⟩
    · have e0 : oOk c p = trk c p.st := by unfold oOk; cases h0 : p.tr; rw [h0] at hxl; simp at hxl; omega; rfl
      have E0 := hide e0
      have q1 : (0 : Int) < (xn : Int) := by omega
      clear e0 hxl q
      go_wp2_with fail
      refine same_world (unhide cH _) ?_
      go_wp2_with fail
      go_meet
      rw [unhide E0]
      exact ⟨rfl, (unhide HW1).symm⟩
  obtain ⟨rfl, hwC⟩ := hcut
  have hwD := hwC.symm
  subst hwD
  clear hwC
  cases q : oOk c p
  · rw [q, if_neg (by decide)] at HRZ
    rw [Bool.not_false]
    clear q
    go_wp2_with fail
    go_ret2
    rw [unhide HRZ]
    exact ⟨rfl, unhide B1⟩
  rw [q, if_pos rfl] at HRZ
  rw [Bool.not_true]
  clear q c2 c5 hxl
  go_upto_if 23 with fail
  go_cut [10] (fun v wx => v = .int .u8 F0 ∧ wx = w1)
  case first =>
    cases last
    · have e0 := unhide HF0
      simp only [Bool.false_eq_true, if_false] at e0
      have E0 := hide e0
      clear e0
      go_wp2_with fail
      go_meet
      rw [unhide E0]
      exact ⟨rfl, rfl⟩
    · have e0 := unhide HF0
      simp only [if_true] at e0
      have E0 := hide e0
      clear e0
      go_wp2_with fail
      go_meet
      rw [unhide E0]
      exact ⟨rfl, rfl⟩
  obtain ⟨rfl, hwC⟩ := hcut
  have hwD := hwC.symm
  subst hwD
  clear hwC
  go_upto_region 6 with fail
  go_cut [11] (fun v wx => ∃ ao n c, v = .slice ao n c ∧ Mine w1.heap.size wx ao n c l2 ∧ Below w1.heap.size w1 wx)
  case first =>
    have bW_a : Below w1.heap.size w1 ((w1.alloc (.cells #[] 5)).drew) := (below_alloc w1 _).drew
    have hR_a : ((w1.alloc (.cells #[] 5)).drew).heap[w1.heap.size]? = some (.cells #[] 5 (0, 0)) := heap_alloc_new w1 _
    have hW_a : w1.heap.size ≤ ((w1.alloc (.cells #[] 5)).drew).heap.size := bW_a.size
    have MA_a := hide (mine_row0 (B := w1.heap.size) hR_a (by omega))
    have BA_a := hide ((unhide BB1).later bW_a)
    have BW_a := hide bW_a
    have bW_b : Below w1.heap.size w1 (((w1.alloc (.cells #[] 5)).alloc (.cells #[.int .u8 F0] 5)).drew) := (Below.alloc (below_alloc w1 _) (by simp) _).drew
    have hO_b : (((w1.alloc (.cells #[] 5)).alloc (.cells #[.int .u8 F0] 5)).drew).heap[w1.heap.size]? = some (.cells #[] 5) := heap_alloc2_old w1 _ _
    have hN_b : (((w1.alloc (.cells #[] 5)).alloc (.cells #[.int .u8 F0] 5)).drew).heap[w1.heap.size + 1]? = some (.cells #[.int .u8 F0] 5) := heap_alloc2_new w1 _ _
    have hR_b := hO_b
    have RC_b := hide hN_b
    have hW_b : w1.heap.size ≤ (((w1.alloc (.cells #[] 5)).alloc (.cells #[.int .u8 F0] 5)).drew).heap.size := bW_b.size
    have MA_b := hide (mine_row0 (B := w1.heap.size) hR_b (by omega))
    have BA_b := hide ((unhide BB1).later bW_b)
    have BW_b := hide bW_b
    have zW_b : w1.heap.size + 1 < (((w1.alloc (.cells #[] 5)).alloc (.cells #[.int .u8 F0] 5)).drew).heap.size := (Array.getElem?_eq_some_iff.1 (unhide RC_b)).1
    have bW_c : Below w1.heap.size w1 (((w1.alloc (.cells #[.int .u8 F0] 5)).alloc (.cells #[] 5)).drew) := (Below.alloc (below_alloc w1 _) (by simp) _).drew
    have hO_c : (((w1.alloc (.cells #[.int .u8 F0] 5)).alloc (.cells #[] 5)).drew).heap[w1.heap.size]? = some (.cells #[.int .u8 F0] 5) := heap_alloc2_old w1 _ _
    have hN_c : (((w1.alloc (.cells #[.int .u8 F0] 5)).alloc (.cells #[] 5)).drew).heap[w1.heap.size + 1]? = some (.cells #[] 5) := heap_alloc2_new w1 _ _
    have hR_c := hN_c
    have RC_c := hide hO_c
    have hW_c : w1.heap.size ≤ (((w1.alloc (.cells #[.int .u8 F0] 5)).alloc (.cells #[] 5)).drew).heap.size := bW_c.size
    have MA_c := hide (mine_row0 (B := w1.heap.size) hR_c (by omega))
    have BA_c := hide ((unhide BB1).later bW_c)
    have BW_c := hide bW_c
    have zW_c : w1.heap.size < (((w1.alloc (.cells #[.int .u8 F0] 5)).alloc (.cells #[] 5)).drew).heap.size := (Array.getElem?_eq_some_iff.1 (unhide RC_c)).1
    clear bW_a bW_b bW_c hR_a hR_b hR_c hO_b hN_b hO_c hN_c
    go_wp2_with fail
    go_region_held3 (fun w' => w'.cell? ⟨w.heap.size, 0, none⟩ = some (.int .u64 p.af) ∧ w'.cell? ⟨w.heap.size, 1, none⟩ = some (.int .u64 p.ins) ∧ w'.cell? ⟨w.heap.size, 2, none⟩ = some (.int .u16 p.st) ∧ w'.cell? ⟨w.heap.size, 3, none⟩ = some (.int .u16 p.wa) ∧ w'.cell? ⟨w.heap.size, 4, none⟩ = some (.string p.info) ∧ w'.cell? ⟨w.heap.size, 5, none⟩ = some (.slice xo xn xc)) (first | exact unhide KC _ b6 | exact unhide KC _ b5 | exact unhide KC _ b3 | exact unhide KC _ b2 | (refine unhide KC _ ?_; (repeat' (first | with_reducible exact b2 | with_reducible exact b3 | with_reducible exact b5 | with_reducible exact Below.refl _ _ | with_reducible refine Below.drew ?_ | with_reducible refine Below.alloc ?_ ?_ _ | exact Nat.le_refl _ | exact b2.size | exact b3.size | omega | (simp; done) | (simp; omega))); done) | go_keep) (first | (refine step_appK rfl (.tmp 24) (.tmp 25) rfl w1.heap.size (some ⟨w1.heap.size, 0, none⟩) 0 0 [] (by simp [Act.eval, Act.put]) (unhide MA_a) bo bn bc b (by simp [Act.eval, Act.put]) (unhide BA_a) (by omega) hW_a ?_; intro ao2 c2 w2 m2 g2; rw [Nat.zero_add, List.nil_append] at m2; have b2 := (unhide BW_a).trans (mine_grown (unhide MA_a) hW_a g2)) | (refine step_appK rfl (.tmp 24) (.tmp 25) rfl w1.heap.size (some ⟨w1.heap.size, 0, none⟩) 0 0 [] (by simp [Act.eval, Act.put]) (unhide MA_b) bo bn bc b (by simp [Act.eval, Act.put]) (unhide BA_b) (by omega) hW_b ?_; intro ao2 c2 w2 m2 g2; rw [Nat.zero_add, List.nil_append] at m2; have b2 := (unhide BW_b).trans (mine_grown (unhide MA_b) hW_b g2); have r2b := bs_row1 ((g2.block (w1.heap.size + 1) zW_b (by simp [Value.ownBlock])).trans (unhide RC_b)) bF0 bF1) | (refine step_appK rfl (.tmp 24) (.tmp 25) rfl w1.heap.size (some ⟨w1.heap.size + 1, 0, none⟩) 0 0 [] (by simp [Act.eval, Act.put]) (unhide MA_c) bo bn bc b (by simp [Act.eval, Act.put]) (unhide BA_c) (by omega) hW_c ?_; intro ao2 c2 w2 m2 g2; rw [Nat.zero_add, List.nil_append] at m2; have b2 := (unhide BW_c).trans (mine_grown (unhide MA_c) hW_c g2); have r2c := bs_row1 ((g2.block (w1.heap.size) zW_c (by simp [Value.ownBlock])).trans (unhide RC_c)) bF0 bF1) | (refine step_appK rfl (.tmp 26) (.tmp 28) rfl w1.heap.size ao2 bn c2 b (by simp [Act.eval, Act.put]) (m2.later (Below.drew (below_alloc w2 (.cells #[.int .u8 F0] 5)))) (some ⟨w2.heap.size, 0, none⟩) 1 1 [F0] (by simp [Act.eval, Act.put]) ((Bs.one w2 F0 bF0 bF1).later (below_drew _)) (by omega) (Nat.le_trans b2.size (Below.drew (below_alloc w2 (.cells #[.int .u8 F0] 5))).size) ?_; intro ao3 c3 w3 m3 g3; rw [← unhide HL1] at m3; have b3 := b2.trans ((Below.mono (Below.drew (below_alloc w2 (.cells #[.int .u8 F0] 5))) b2.size).trans (mine_grown (m2.later (Below.drew (below_alloc w2 (.cells #[.int .u8 F0] 5)))) (Nat.le_trans b2.size (Below.drew (below_alloc w2 (.cells #[.int .u8 F0] 5))).size) g3))) | (refine step_appK rfl (.tmp 26) (.tmp 28) rfl w1.heap.size ao2 bn c2 b (by simp [Act.eval, Act.put]) (m2.later (below_alloc w2 (.cells #[.int .u8 F0] 5))) (some ⟨w2.heap.size, 0, none⟩) 1 1 [F0] (by simp [Act.eval, Act.put]) (Bs.one w2 F0 bF0 bF1) (by omega) (Nat.le_trans b2.size (below_alloc w2 (.cells #[.int .u8 F0] 5)).size) ?_; intro ao3 c3 w3 m3 g3; rw [← unhide HL1] at m3; have b3 := b2.trans ((Below.mono (below_alloc w2 (.cells #[.int .u8 F0] 5)) b2.size).trans (mine_grown (m2.later (below_alloc w2 (.cells #[.int .u8 F0] 5))) (Nat.le_trans b2.size (below_alloc w2 (.cells #[.int .u8 F0] 5)).size) g3))) | (refine step_appK rfl (.tmp 26) (.tmp 28) rfl w1.heap.size ao2 bn c2 b (by simp [Act.eval, Act.put]) (m2.later (below_drew w2)) (some ⟨w1.heap.size + 1, 0, none⟩) 1 1 [F0] (by simp [Act.eval, Act.put]) (r2b.later (below_drew w2)) (by omega) (Nat.le_trans b2.size (below_drew w2).size) ?_; intro ao3 c3 w3 m3 g3; rw [← unhide HL1] at m3; have b3 := b2.trans ((Below.mono (below_drew w2) b2.size).trans (mine_grown (m2.later (below_drew w2)) (Nat.le_trans b2.size (below_drew w2).size) g3))) | (refine step_appK rfl (.tmp 26) (.tmp 28) rfl w1.heap.size ao2 bn c2 b (by simp [Act.eval, Act.put]) m2 (some ⟨w1.heap.size + 1, 0, none⟩) 1 1 [F0] (by simp [Act.eval, Act.put]) r2b (by omega) (Nat.le_trans b2.size (Below.refl w2.heap.size w2).size) ?_; intro ao3 c3 w3 m3 g3; rw [← unhide HL1] at m3; have b3 := b2.trans ((Below.mono (Below.refl w2.heap.size w2) b2.size).trans (mine_grown m2 (Nat.le_trans b2.size (Below.refl w2.heap.size w2).size) g3))) | (refine step_appK rfl (.tmp 26) (.tmp 28) rfl w1.heap.size ao2 bn c2 b (by simp [Act.eval, Act.put]) (m2.later (below_drew w2)) (some ⟨w1.heap.size, 0, none⟩) 1 1 [F0] (by simp [Act.eval, Act.put]) (r2c.later (below_drew w2)) (by omega) (Nat.le_trans b2.size (below_drew w2).size) ?_; intro ao3 c3 w3 m3 g3; rw [← unhide HL1] at m3; have b3 := b2.trans ((Below.mono (below_drew w2) b2.size).trans (mine_grown (m2.later (below_drew w2)) (Nat.le_trans b2.size (below_drew w2).size) g3))) | (refine step_appK rfl (.tmp 26) (.tmp 28) rfl w1.heap.size ao2 bn c2 b (by simp [Act.eval, Act.put]) m2 (some ⟨w1.heap.size, 0, none⟩) 1 1 [F0] (by simp [Act.eval, Act.put]) r2c (by omega) (Nat.le_trans b2.size (Below.refl w2.heap.size w2).size) ?_; intro ao3 c3 w3 m3 g3; rw [← unhide HL1] at m3; have b3 := b2.trans ((Below.mono (Below.refl w2.heap.size w2) b2.size).trans (mine_grown m2 (Nat.le_trans b2.size (Below.refl w2.heap.size w2).size) g3))) | (go_at_call 73; with_reducible show Calls Try.prog 73 #[.slice ao3 _ c3, .int .u64 p.af] w3 _; refine (unhide cX w3 ao3 _ c3 (m3.bs)).mono ?_; rintro e w5 ⟨ao5, n5, c5, rfl, m5, b50⟩; have b5 := b3.trans (Below.mono (b50) b3.size)) | (go_at_call 73; with_reducible show Calls Try.prog 73 #[.slice ao3 _ c3, .int .u64 p.af] w3.drew _; refine (unhide cX w3.drew ao3 _ c3 (m3.bs.later (below_drew w3))).mono ?_; rintro e w5 ⟨ao5, n5, c5, rfl, m5, b50⟩; have b5 := b3.trans (Below.mono ((below_drew w3).trans b50) b3.size)))
    all_goals have MQ := hide (m5.mono (B' := w1.heap.size) b3.size)
    all_goals have BQ := hide b5
    all_goals clear m5 b5
    all_goals go_wp2_with fail
    all_goals go_meet
    all_goals exact ⟨_, _, _, rfl, unhide MQ, unhide BQ⟩
  obtain ⟨ao5, n5, c5, rfl, m5, b5⟩ := hcut
  go_upto_region 7 with fail
  go_cut [11] (fun v wx => ∃ ao n c, v = .slice ao n c ∧ Mine w1.heap.size wx ao n c l5 ∧ Below w1.heap.size w1 wx)
  case first =>
    go_wp2_with fail
    go_region_held3 (fun w' => w'.cell? ⟨w.heap.size, 0, none⟩ = some (.int .u64 p.af) ∧ w'.cell? ⟨w.heap.size, 1, none⟩ = some (.int .u64 p.ins) ∧ w'.cell? ⟨w.heap.size, 2, none⟩ = some (.int .u16 p.st) ∧ w'.cell? ⟨w.heap.size, 3, none⟩ = some (.int .u16 p.wa) ∧ w'.cell? ⟨w.heap.size, 4, none⟩ = some (.string p.info) ∧ w'.cell? ⟨w.heap.size, 5, none⟩ = some (.slice xo xn xc)) (first | exact unhide KC _ b8 | exact unhide KC _ b7 | exact unhide KC _ b6 | exact unhide KC _ b5 | (refine unhide KC _ ?_; (repeat' (first | with_reducible exact b8 | with_reducible exact b7 | with_reducible exact b6 | with_reducible exact b5 | with_reducible exact Below.refl _ _ | with_reducible refine Below.drew ?_ | with_reducible refine Below.alloc ?_ ?_ _ | exact Nat.le_refl _ | exact b8.size | exact b7.size | exact b6.size | exact b5.size | omega | (simp; done) | (simp; omega))); done) | go_keep) (first | (go_at_call 73; with_reducible show Calls Try.prog 73 #[.slice ao5 _ c5, .int .u64 p.ins] _ _; refine (unhide cY _ ao5 _ c5 m5.bs).mono ?_; rintro e w6 ⟨ao6, n6, c6, rfl, m6, b60⟩; have b6 := Below.trans b5 (b60.mono (Below.size b5)); have m6 := m6.mono (Below.size b5)) | (go_at_call 73; with_reducible show Calls Try.prog 73 #[.slice ao5 _ c5, .int .u64 p.ins] _ _; refine (unhide cY _ ao5 _ c5 (m5.bs.later (below_drew _))).mono ?_; rintro e w6 ⟨ao6, n6, c6, rfl, m6, b60⟩; have b6 := Below.trans (Below.drew b5) (b60.mono (Below.size (Below.drew b5))); have m6 := m6.mono (Below.size (Below.drew b5))) | (go_at_call 74; with_reducible show Calls Try.prog 74 #[.slice ao6 _ c6, .int .u64 (IntKind.u64.wrap p.st), _] _ _; refine (unhide cZ _ ao6 _ c6 m6.bs).mono ?_; rintro e w7 ⟨ao7, n7, c7, rfl, m7, b70⟩; have b7 := Below.trans b6 (b70.mono (Below.size b6)); have m7 := m7.mono (Below.size b6)) | (go_at_call 74; with_reducible show Calls Try.prog 74 #[.slice ao6 _ c6, .int .u64 (IntKind.u64.wrap p.st), _] _ _; refine (unhide cZ _ ao6 _ c6 (m6.bs.later (below_drew _))).mono ?_; rintro e w7 ⟨ao7, n7, c7, rfl, m7, b70⟩; have b7 := Below.trans (Below.drew b6) (b70.mono (Below.size (Below.drew b6))); have m7 := m7.mono (Below.size (Below.drew b6))) | (go_at_call 74; with_reducible show Calls Try.prog 74 #[.slice ao7 _ c7, .int .u64 (IntKind.u64.wrap p.wa), _] _ _; refine (unhide cW _ ao7 _ c7 m7.bs).mono ?_; rintro e w8 ⟨ao8, n8, c8, rfl, m8, b80⟩; have b8 := Below.trans b7 (b80.mono (Below.size b7)); have m8 := m8.mono (Below.size b7)) | (go_at_call 74; with_reducible show Calls Try.prog 74 #[.slice ao7 _ c7, .int .u64 (IntKind.u64.wrap p.wa), _] _ _; refine (unhide cW _ ao7 _ c7 (m7.bs.later (below_drew _))).mono ?_; rintro e w8 ⟨ao8, n8, c8, rfl, m8, b80⟩; have b8 := Below.trans (Below.drew b7) (b80.mono (Below.size (Below.drew b7))); have m8 := m8.mono (Below.size (Below.drew b7))))
    all_goals have MQ := hide m8
    all_goals have BQ := hide b8
    all_goals clear m8 b8
    all_goals go_wp2_with fail
    all_goals go_meet
    all_goals exact ⟨_, _, _, rfl, unhide MQ, unhide BQ⟩
  obtain ⟨ao8, n8, c8, rfl, m8, b8⟩ := hcut
  have M8 := hide m8
  have B8 := hide b8
  have hz8 := b8.size
  have hn8 : n8 ≤ bn + 40 := by rw [← m8.len]; exact unhide LN
  have j4 := (b8.cell (p := ⟨w.heap.size, 4, none⟩) hlt).trans k4
  have BX := hide ((unhide B1).trans (b8.mono (Nat.le_of_lt hlt)))
  have JJ := hide (fun w' (hb : Below w1.heap.size w1 w') => And.intro ((hb.cell (p := ⟨w.heap.size, 2, none⟩) hlt).trans k2) ((hb.cell (p := ⟨w.heap.size, 5, none⟩) hlt).trans k5))
  clear m8 b8 m5 b5
  go_wp2_with fail
  refine same_world (unhide cC _) ?_
  cases q : has c 8388608
  · have HRES := hide (show RZ = some (l5 ++ nums p.info) by rw [unhide HRZ, unhide HRS]; unfold okT; rw [if_pos q])
    clear q HRS HRZ cT cU cH
    go_wp2_with (at_builtin; refine wpList_appTG rfl (.tmp 48) (.tmp 50) rfl w1.heap.size _ _ _ _ rfl (unhide M8) p.info rfl (by omega) hz8 ?_; intro ao9 c9 w9 m9 g9; have M9 := hide m9; have B9 := hide ((unhide B8).trans (mine_grown (unhide M8) hz8 g9)); clear m9 g9)
    go_ret2
    rw [unhide HRES]
    exact ⟨_, _, _, rfl, (unhide M9).mono (Nat.le_of_lt hlt), (unhide B1).trans ((unhide B9).mono (Nat.le_of_lt hlt))⟩
  · go_wp2_with fail
    clear j4
    refine (unhide cT _ ao8 _ c8 (unhide M8).bs).mono ?_
    rintro e w9 ⟨ao9, n9, c9, rfl, m9, b90⟩
    have M9 := hide (m9.mono (B' := w1.heap.size) hz8)
    have b9 := (unhide B8).trans (b90.mono hz8)
    have hz9 := b9.size
    have JK := unhide JJ _ b9
    obtain ⟨j2, j5⟩ := JK
    have B9 := hide b9
    have hstr := ((unhide HX).later ((unhide B1).trans (b9.mono (Nat.le_of_lt hlt)))).str
    clear m9 b90 b9
    go_wp2_with fail
    refine same_world (unhide cH _) ?_
    cases q2 : trk c p.st
    · have HRES := hide (show RZ = some (l5 ++ txB p.info) by rw [unhide HRZ, unhide HRS]; unfold okT; rw [if_neg (by rw [q]; decide), if_neg (by rw [q2]; decide)])
      clear q q2 HRS HRZ cU
      go_wp2_with fail
      go_ret2
      rw [unhide HRES]
      exact ⟨_, _, _, rfl, (unhide M9).mono (Nat.le_of_lt hlt), (unhide B1).trans ((unhide B9).mono (Nat.le_of_lt hlt))⟩
    · have HRES := hide (show RZ = some (l5 ++ txB p.info ++ txB (strOfNums p.tr)) by rw [unhide HRZ, unhide HRS]; unfold okT; rw [if_neg (by rw [q]; decide), if_pos q2, unhide HTX, List.append_assoc])
      clear q q2 HRS HRZ
      generalize strOfNums p.tr = ST at *
      go_wp2_with fail
      refine (unhide cU _ ao9 _ c9 (unhide M9).bs).mono ?_
      rintro e w10 ⟨ao10, n10, c10, rfl, m10, b100⟩
      have M10 := hide (m10.mono (B' := w1.heap.size) hz9)
      have B10 := hide ((unhide B9).trans (b100.mono hz9))
      clear m10 b100 hstr
      go_wp2_with fail
      go_ret2
      rw [unhide HRES]
      exact ⟨_, _, _, rfl, (unhide M10).mono (Nat.le_of_lt hlt), (unhide B1).trans ((unhide B10).mono (Nat.le_of_lt hlt))⟩

end Go.Proofs.Ytkijdkbkbelliaa
