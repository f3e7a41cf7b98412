/-
  ReplyNames answers true: the worked examples of the chapter. Conditions: none.
-/
import Derived.Test.YtkijdkbkbelliaaRyRow
namespace Go.Proofs.Ytkijdkbkbelliaa
open Go.RowKit
set_option linter.unusedVariables false
set_option linter.unusedSimpArgs false

theorem exO1_by : [] ++ okB 8388608 false exO = [0, 1, 0, 2, 0, 0, 0, 0] := by kernel_rfl
theorem exN1 : okR [0, 1, 0, 2, 0, 0, 0] 8388608 = (⟨1, 0, 2, 0, ⟨#[]⟩, []⟩, 0) := by kernel_rfl
theorem exN2 : okR [0, 1, 0, 2, 0, 0] 0 = (⟨0, 0, 0, 0, ⟨#[]⟩, []⟩, 4) := by kernel_rfl
theorem exN3 : erR [255, 40, 4, 97] = (⟨0, ⟨#[]⟩, ⟨#[]⟩⟩, 5) := by kernel_rfl
theorem exN4 : erR [255, 40] = (⟨0, ⟨#[]⟩, ⟨#[]⟩⟩, 4) := by kernel_rfl
theorem exN5 : [] ++ eoB ⟨0, 2⟩ = [254, 0, 0, 2, 0] := by kernel_rfl
theorem exN6 : [] ++ fiB ⟨#[97]⟩ = [251, 97] := by kernel_rfl
theorem exN7 : fiR [251] = (⟨#[]⟩, 4) := by kernel_rfl
theorem exN8 : laK [254, 0, 0, 2, 0] 0 = 3 := by kernel_rfl
theorem exN9 : laK [254, 0, 0, 2, 0] 16777216 = 1 := by kernel_rfl
theorem exN10 : fiK [251, 97] 0 = 0 := by kernel_rfl

theorem byt_lit {l : List Int} (h : l.all (fun x => decide (0 ≤ x ∧ x ≤ 255)) = true) : Byt l := fun x hx => by have := List.all_eq_true.1 h x hx; simpa using this

theorem rdOk_lit (l : List Int) (hl : l.all (fun x => decide (0 ≤ x ∧ x ≤ 255)) = true) (h1 : l.length ≤ 1000) (c : Int) (R : Ok) (E : Int) (hR : okR l c = (R, E)) (w : World) :
    Calls Try.prog 10 #[.slice (some ⟨w.heap.size, 0, none⟩) l.length l.length, .int .u32 c] (w.alloc (.cells (l.map (Value.int .u8)).toArray 5)) fun e w' => ∃ xo xn xc, e = .returned (.tuple #[.agg #[.int .u64 R.af, .int .u64 R.ins, .int .u16 R.st, .int .u16 R.wa, .string R.info, .slice xo xn xc], .int .i64 E]) ∧ Below w.heap.size w w' := by
  have q := readOk_any _ _ _ l c _ (Bs.lit w l (byt_lit hl) h1) (by omega)
  rw [hR] at q
  refine q.mono ?_
  rintro e w' ⟨xo, xn, xc, rfl, _, hb⟩
  exact ⟨xo, xn, xc, rfl, bup (below_alloc w _) hb⟩
theorem rdEr_lit (l : List Int) (hl : l.all (fun x => decide (0 ≤ x ∧ x ≤ 255)) = true) (h1 : l.length ≤ 1000) (R : Er) (E : Int) (hR : erR l = (R, E)) (w : World) :
    Calls Try.prog 11 #[.slice (some ⟨w.heap.size, 0, none⟩) l.length l.length] (w.alloc (.cells (l.map (Value.int .u8)).toArray 5)) fun e w' => e = .returned (.tuple #[.agg #[.int .u16 R.co, .string R.st, .string R.tx], .int .i64 E]) ∧ Below w.heap.size w w' := by
  have q := readErr_any _ _ _ l _ (Bs.lit w l (byt_lit hl) h1) (by omega)
  rw [hR] at q
  refine q.mono ?_
  rintro e w' ⟨rfl, hb⟩
  exact ⟨rfl, bup (below_alloc w _) hb⟩
theorem exEof_any (w : World) : Calls Try.prog 13 #[.slice none 0 0, .agg #[.int .u16 0, .int .u16 2]] w fun e w' => ∃ ao k, e = .returned (.slice ao 5 k) ∧ Mine w.heap.size w' ao 5 k [254, 0, 0, 2, 0] ∧ Below w.heap.size w w' := by
  have q := appendEof_any none 0 0 [] ⟨0, 2⟩ w (Bs.nought w) ⟨by decide, by decide⟩ (by decide)
  rw [exN5] at q
  refine q.mono ?_
  rintro e w' ⟨ao, n, k, rfl, hm, hb⟩
  have hn := hm.len
  simp at hn
  subst hn
  exact ⟨ao, k, rfl, hm, hb⟩
theorem exFile_any (w : World) : Calls Try.prog 14 #[.slice none 0 0, .string ⟨#[97]⟩] w fun e w' => ∃ ao k, e = .returned (.tuple #[.slice ao 2 k, .int .i64 0]) ∧ Mine w.heap.size w' ao 2 k [251, 97] ∧ Below w.heap.size w w' := by
  have q := appendFile_any none 0 0 [] ⟨#[97]⟩ w (Bs.nought w) (by decide)
  rw [if_pos (show fOk ⟨#[97]⟩ = true by kernel_rfl), exN6] at q
  refine q.mono ?_
  rintro e w' ⟨ao, n, k, rfl, hm, hb⟩
  have hn := hm.len
  simp at hn
  subst hn
  exact ⟨ao, k, rfl, hm, hb⟩
theorem exRF_any (w : World) : Calls Try.prog 15 #[.slice (some ⟨w.heap.size, 0, none⟩) 1 1] (w.alloc (.cells #[.int .u8 251] 5)) fun e w' => e = .returned (.tuple #[.string ⟨#[]⟩, .int .i64 4]) ∧ Below w.heap.size w w' := by
  have q := readFile_any _ _ _ [251] _ (Bs.lit w [251] (byt_lit rfl) (by decide)) (by decide)
  rw [exN7] at q
  refine q.mono ?_
  rintro e w' ⟨rfl, hb⟩
  exact ⟨rfl, bup (below_alloc w _) hb⟩

set_option maxHeartbeats 8000000 in
set_option maxRecDepth 100000 in
theorem lawRyNames (w : World) : Calls Try.prog 3 #[] w fun e w' => e = .returned (.bool true) ∧ Below w.heap.size w w' := by
  have c1 := hide (exO_any 8388608 _ exO1_by w)
  go_enter Try.func3, Try.ntmps3
  go_wp2_with fail
  refine (unhide c1).mono ?_
  rintro e w1 ⟨a1, k1, rfl, m1, b1⟩
  have M1 := hide m1
  have B1 := hide b1
  have c2 := hide (rdOk_lit [0, 1, 0, 2, 0, 0, 0] rfl (by decide) 8388608 _ _ exN1 w1)
  clear m1 b1 c1
  go_wp2_with fail
  refine (unhide c2).mono ?_
  rintro e w2 ⟨xo, xn, xc, rfl, b2⟩
  have M2 := hide ((unhide M1).later b2)
  have B2 := hide (bup (unhide B1) b2)
  clear b2 c2 M1 B1
  go_wp2_with (with_reducible show wpList Try.prog _ _ (Oper.mk _ (Op.store 31 _ _) _ _ _ none :: _) _ _; refine wpList_stN rfl _ (.tmp 4) (.tmp 24) rfl #[.int .u64 1, .int .u64 0, .int .u16 2, .int .u16 0, .string ⟨#[]⟩, .slice xo xn xc] (by simp [Act.eval, Act.put]) (by simp [Act.eval, Act.put]) (by kernel_rfl) rfl (by simp [Value.oneCell']) ?_; intro w3 h3 b3 z3; have H3 := hide h3; have M3 := hide ((unhide M2).later b3); have B3 := hide (bup (unhide B2) b3); have c3 := hide (rdOk_lit [0, 1, 0, 2, 0, 0] rfl (by decide) 0 _ _ exN2 w3); clear h3 b3 z3 M2 B2)
  refine (unhide c3).mono ?_
  rintro e w4 ⟨yo, yn, yc, rfl, b4⟩
  have M4 := hide ((unhide M3).later b4)
  have H4 := hide (row_later (unhide H3) b4)
  have B4 := hide (bup (unhide B3) b4)
  clear b4 c3 M3 B3 H3
  go_wp2_with (with_reducible show wpList Try.prog _ _ (Oper.mk _ (Op.store 31 _ _) _ _ _ none :: _) _ _; refine wpList_stN rfl _ (.tmp 6) (.tmp 29) rfl #[.int .u64 0, .int .u64 0, .int .u16 0, .int .u16 0, .string ⟨#[]⟩, .slice yo yn yc] (by simp [Act.eval, Act.put]) (by simp [Act.eval, Act.put]) (by kernel_rfl) rfl (by simp [Value.oneCell']) ?_; intro w5 h5 b5 z5; have H5 := hide (row_later (unhide H4) b5); have M5 := hide ((unhide M4).later b5); have B5 := hide (bup (unhide B4) b5); have c5 := hide (rdEr_lit [255, 40, 4, 97] rfl (by decide) _ _ exN3 w5); clear h5 b5 z5 M4 B4 H4)
  refine (unhide c5).mono ?_
  rintro e w6 ⟨rfl, b6⟩
  have M6 := hide ((unhide M5).later b6)
  have H6 := hide (row_later (unhide H5) b6)
  have B6 := hide (bup (unhide B5) b6)
  clear b6 c5 M5 B5 H5
  go_wp2_with (with_reducible show wpList Try.prog _ _ (Oper.mk _ (Op.store 35 _ _) _ _ _ none :: _) _ _; refine wpList_stN rfl _ (.tmp 8) (.tmp 34) rfl #[.int .u16 0, .string ⟨#[]⟩, .string ⟨#[]⟩] (by simp [Act.eval, Act.put]) (by simp [Act.eval, Act.put]) (by kernel_rfl) rfl (by simp [Value.oneCell']) ?_; intro w7 h7 b7 z7; have H7 := hide (row_later (unhide H6) b7); have M7 := hide ((unhide M6).later b7); have B7 := hide (bup (unhide B6) b7); have c7 := hide (rdEr_lit [255, 40] rfl (by decide) _ _ exN4 w7); clear h7 b7 z7 M6 B6 H6)
  refine (unhide c7).mono ?_
  rintro e w8 ⟨rfl, b8⟩
  have M8 := hide ((unhide M7).later b8)
  have H8 := hide (row_later (unhide H7) b8)
  have B8 := hide (bup (unhide B7) b8)
  clear b8 c7 M7 B7 H7
  go_wp2_with (with_reducible show wpList Try.prog _ _ (Oper.mk _ (Op.store 35 _ _) _ _ _ none :: _) _ _; refine wpList_stN rfl _ (.tmp 10) (.tmp 39) rfl #[.int .u16 0, .string ⟨#[]⟩, .string ⟨#[]⟩] (by simp [Act.eval, Act.put]) (by simp [Act.eval, Act.put]) (by kernel_rfl) rfl (by simp [Value.oneCell']) ?_; intro w9 h9 b9 z9; have H9 := hide (row_later (unhide H8) b9); have M9 := hide ((unhide M8).later b9); have B9 := hide (bup (unhide B8) b9); have lb9 := below_alloc w9 (.cells #[.int .u8 0, .int .u8 1, .int .u8 0, .int .u8 2, .int .u8 0, .int .u8 0, .int .u8 0, .int .u8 0] 5); have cS := hide (sameBytes_any a1 8 k1 [0, 1, 0, 2, 0, 0, 0, 0] (some ⟨w9.heap.size, 0, none⟩) 8 8 [0, 1, 0, 2, 0, 0, 0, 0] _ ((unhide M9).bs.later lb9) (Bs.lit w9 [0, 1, 0, 2, 0, 0, 0, 0] (byt_lit rfl) (by decide))); rw [decide_eq_true rfl] at cS; have r0 := row_cell (row_later (unhide H9) lb9) (j := 0) rfl; have r2 := row_cell (row_later (unhide H9) lb9) (j := 2) rfl; have B10 := hide (bup (unhide B9) lb9); clear h9 b9 z9 M8 B8 H8 lb9)
  refine same_world (unhide cS) ?_
  obtain ⟨w10, hw10⟩ : ∃ z, z = (w9.alloc (.cells #[.int .u8 0, .int .u8 1, .int .u8 0, .int .u8 2, .int .u8 0, .int .u8 0, .int .u8 0, .int .u8 0] 5)) := ⟨_, rfl⟩
  rw [← hw10] at r0 r2 B10 ⊢
  have c11 := hide (exEof_any w10)
  clear cS H9 M9 B9 hw10
  go_wp2_with fail
  refine (unhide c11).mono ?_
  rintro e w11 ⟨a11, k11, rfl, m11, b11⟩
  have M11 := hide m11
  have B11 := hide (bup (unhide B10) b11)
  have c12 := hide (exFile_any w11)
  clear m11 b11 c11 B10 r0 r2
  go_wp2_with fail
  refine (unhide c12).mono ?_
  rintro e w12 ⟨a12, k12, rfl, m12, b12⟩
  have M12 := hide m12
  have N12 := hide ((unhide M11).later b12)
  have B12 := hide (bup (unhide B11) b12)
  have c13 := hide (exRF_any w12)
  clear m12 b12 c12 B11 M11
  go_wp2_with fail
  refine (unhide c13).mono ?_
  rintro e w13 ⟨rfl, b13⟩
  have M13 := hide ((unhide M12).later b13)
  have N13 := hide ((unhide N12).later b13)
  have B13 := hide (bup (unhide B12) b13)
  clear b13 c13 B12 M12 N12
  have lb := below_alloc w13 (.cells #[.int .u8 254, .int .u8 0, .int .u8 0, .int .u8 2, .int .u8 0] 5)
  have cS := hide (sameBytes_any a11 5 k11 [254, 0, 0, 2, 0] (some ⟨w13.heap.size, 0, none⟩) 5 5 [254, 0, 0, 2, 0] _ ((unhide N13).bs.later lb) (Bs.lit w13 [254, 0, 0, 2, 0] (byt_lit rfl) (by decide)))
  rw [decide_eq_true rfl] at cS
  have M14 := hide ((unhide M13).later lb)
  have N14 := hide ((unhide N13).later lb)
  have B14 := hide (bup (unhide B13) lb)
  clear lb M13 N13 B13
  go_wp2_with fail
  refine same_world (unhide cS) ?_
  obtain ⟨w14, hw14⟩ : ∃ z, z = (w13.alloc (.cells #[.int .u8 254, .int .u8 0, .int .u8 0, .int .u8 2, .int .u8 0] 5)) := ⟨_, rfl⟩
  rw [← hw14] at M14 N14 B14 ⊢
  have e1 := hide (last_any a11 5 k11 _ 0 w14 (unhide N14).bs)
  rw [exN8] at e1
  have e2 := hide (last_any a11 5 k11 _ 16777216 w14 (unhide N14).bs)
  rw [exN9] at e2
  have lb := below_alloc w14 (.cells #[.int .u8 251, .int .u8 97] 5)
  have e3 := hide (sameBytes_any a12 2 k12 [251, 97] (some ⟨w14.heap.size, 0, none⟩) 2 2 [251, 97] _ ((unhide M14).bs.later lb) (Bs.lit w14 [251, 97] (byt_lit rfl) (by decide)))
  rw [decide_eq_true rfl] at e3
  have B15 := hide (bup (unhide B14) lb)
  clear cS hw14 M14 N14 B14 lb
  go_wp2_with fail
  refine same_world (unhide e1) ?_
  go_wp2_with fail
  refine same_world (unhide e2) ?_
  go_wp2_with fail
  refine same_world (unhide e3) ?_
  obtain ⟨w15, hw15⟩ : ∃ z, z = (w14.alloc (.cells #[.int .u8 251, .int .u8 97] 5)) := ⟨_, rfl⟩
  rw [← hw15] at B15 ⊢
  have cL := hide (lives_any w15)
  clear e1 e2 e3 hw15
  go_wp2_with fail
  refine (unhide cL).mono ?_
  rintro e w16 ⟨rfl, b16⟩
  have B16 := hide (bup (unhide B15) b16)
  have lb := below_alloc w16 (.cells #[.int .u8 251, .int .u8 97] 5)
  have e4 := hide (first_any (some ⟨w16.heap.size, 0, none⟩) 2 2 [251, 97] 0 _ (Bs.lit w16 [251, 97] (byt_lit rfl) (by decide)))
  rw [exN10] at e4
  have B17 := hide (bup (unhide B16) lb)
  clear b16 cL B15 lb B16
  go_wp2_with fail
  refine same_world (unhide e4) ?_
  go_wp2_with fail
  go_ret
  exact ⟨rfl, unhide B17⟩

end Go.Proofs.Ytkijdkbkbelliaa
