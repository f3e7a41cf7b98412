/-
  ColumnBack walked: a column that is written is read back; a byte less is too short, a byte more is wrong; a count that is written is read back. Conditions: numbers within their kinds.
-/
import Derived.Test.YtgdjeooiimjjcaaClBack
import Derived.Test.YtgdjeooiimjjcaaClRead
import Derived.Test.YtgdjeooiimjjcaaClLives
import Derived.Test.YtgdjeooiimjjcaaClEq
import Derived.Test.YtgdjeooiimjjcaaClPick
import Derived.Test.YtgdjeooiimjjcaaClCs
namespace Go.Proofs.Ytgdjeooiimjjcaa
open Go.RowKit
set_option linter.unusedVariables false
set_option linter.unusedSimpArgs false

set_option maxHeartbeats 8000000 in
set_option maxRecDepth 100000 in
theorem lawClBack (p : Co) (n cut more : Int) (w : World) (hK : CoK p) (hm0 : 0 ≤ more) (hm1 : more ≤ 255) :
    Calls Try.prog 4 #[.agg #[.string p.sc, .string p.ta, .string p.ot, .string p.na, .string p.on, .int .u16 p.ch, .int .u32 p.le, .int .u8 p.ty, .int .u16 p.fl, .int .u8 p.de], .int .i64 n, .int .i64 cut, .int .u8 more] w fun e w' => e = .returned (.bool true) ∧ Below w.heap.size w w' := by
  obtain ⟨w1, hw1⟩ : ∃ z, z = w.alloc (.cells #[.string p.sc, .string p.ta, .string p.ot, .string p.na, .string p.on, .int .u16 p.ch, .int .u32 p.le, .int .u8 p.ty, .int .u16 p.fl, .int .u8 p.de] 28) := ⟨_, rfl⟩
  have S1 := hide (show Cs w p w1 from ⟨by rw [hw1]; exact heap_alloc_new w _, by rw [hw1]; exact below_alloc w _⟩)
  have HW := hide hw1
  have SZ := hide (show (Try.prog.info? 28).map (·.size) = some (#[.string p.sc, .string p.ta, .string p.ot, .string p.na, .string p.on, .int .u16 p.ch, .int .u32 p.le, .int .u8 p.ty, .int .u16 p.fl, .int .u8 p.de] : Array Value).size by kernel_rfl)
  have SZ2 := hide (fun (P : Co) => show (Try.prog.info? 28).map (·.size) = some (#[.string P.sc, .string P.ta, .string P.ot, .string P.na, .string P.on, .int .u16 P.ch, .int .u32 P.le, .int .u8 P.ty, .int .u16 P.fl, .int .u8 P.de] : Array Value).size by kernel_rfl)
  have cL := hide (lives_any w1)
  have cS := hide (fun wx => small_any p wx)
  have cA := hide (fun wx => append_any none 0 0 [] p wx (Bs.nought wx) hK (by simp))
  have cK := hide (fun wx => check_any p wx hK)
  have cN := hide (fun wx => appendCount_any none 0 0 [] n wx (Bs.nought wx) (by simp))
  have HK := hide hK
  clear hw1 hK
  go_enter Try.func4, Try.ntmps4
  go_wp2_with fail
  rw [← unhide HW]
  refine (unhide cL).mono ?_
  rintro e w2 ⟨rfl, b⟩
  have S2 := hide ((unhide S1).later b)
  have R2 := hide (unhide S2).row
  clear b cL S1
  go_wp2_with (with_reducible show wpList Try.prog _ _ (Oper.mk _ (Op.load 28 _) _ _ _ none :: _) _ _; refine wpList_load_row rfl _ (.tmp 4) rfl w.heap.size (by simp [Act.eval, Act.put]) _ #[.string p.sc, .string p.ta, .string p.ot, .string p.na, .string p.on, .int .u16 p.ch, .int .u32 p.le, .int .u8 p.ty, .int .u16 p.fl, .int .u8 p.de] (0, 0) _ (unhide R2) Try.underlying28 rfl (unhide SZ) ?_)
  refine (unhide cS _).mono ?_
  rintro e w3 ⟨B, rfl, b⟩
  have S3 := hide ((unhide S2).later b)
  clear b cS S2 R2
  cases B
  · go_wp2_with fail
    go_ret
    exact ⟨rfl, (unhide S3).bel⟩
  go_wp2_with fail
  cases qn : nOk n
  · rw [qn, if_neg (by decide)] at cN
    refine (unhide cN _).mono ?_
    rintro e w5 ⟨rfl, b⟩
    have S5 := hide ((unhide S3).later b)
    clear b cN S3 qn
    have R5 := hide (unhide S5).row
    go_wp2_with (with_reducible show wpList Try.prog _ _ (Oper.mk _ (Op.load 28 _) _ _ _ none :: _) _ _; refine wpList_load_row rfl _ (.tmp 4) rfl w.heap.size (by simp [Act.eval, Act.put]) _ #[.string p.sc, .string p.ta, .string p.ot, .string p.na, .string p.on, .int .u16 p.ch, .int .u32 p.le, .int .u8 p.ty, .int .u16 p.fl, .int .u8 p.de] (0, 0) _ (unhide R5) Try.underlying28 rfl (unhide SZ) ?_)
    cases q : cOk p
    · rw [q, if_neg (by decide)] at cA cK
      refine (unhide cA _).mono ?_
      rintro e w6 ⟨rfl, b⟩
      have S6 := hide ((unhide S5).later b)
      have R6 := hide (unhide S6).row
      clear b cA S5 R5
      go_wp2_with (with_reducible show wpList Try.prog _ _ (Oper.mk _ (Op.load 28 _) _ _ _ none :: _) _ _; refine wpList_load_row rfl _ (.tmp 4) rfl w.heap.size (by simp [Act.eval, Act.put]) _ #[.string p.sc, .string p.ta, .string p.ot, .string p.na, .string p.on, .int .u16 p.ch, .int .u32 p.le, .int .u8 p.ty, .int .u16 p.fl, .int .u8 p.de] (0, 0) _ (unhide R6) Try.underlying28 rfl (unhide SZ) ?_)
      refine (unhide cK _).mono ?_
      rintro e w7 ⟨rfl, b⟩
      have S7 := hide ((unhide S6).later b)
      clear b cK S6 R6
      go_wp2_with fail
      go_ret
      exact ⟨rfl, (unhide S7).bel⟩
    rw [q, if_pos rfl, List.nil_append] at cA
    obtain ⟨lmx, lps⟩ := coB_len q
    have PB := hide (co_back q (unhide HK))
    have PP := hide (fun k hk => co_part (k := k) q (unhide HK) hk)
    have PM := hide (co_more q (unhide HK) more)
    clear q cK
    generalize coB p = L at *
    refine (unhide cA _).mono ?_
    rintro e w6 ⟨ao, m, c, rfl, hm, b⟩
    have hlen := hm.len
    have hle := hm.bs.le
    have hmx := hm.bs.max
    have S6 := hide (show Cw w p ao m c L w6 from ⟨(unhide S5).later b, hm.bs⟩)
    clear b cA S5 R5 hm
    have hm9 : m ≤ 100000 := by omega
    have hm0' : 0 < m := by omega
    have cR := hide (fun (wx : World) (h : Cw w p ao m c L wx) => read_any ao m c L wx h.bs (by omega))
    rw [unhide PB] at cR
    go_wp2_with fail
    refine (unhide cR _ (unhide S6)).mono ?_
    rintro e w7 ⟨rfl, b⟩
    have S7 := hide ((unhide S6).later b)
    clear b cR S6 PB
    have cP := hide (fun wx => pick_any cut (m : Int) wx (by omega) (by omega))
    go_wp2_with (with_reducible show wpList Try.prog _ _ (Oper.mk _ (Op.store 28 _ _) _ _ _ none :: _) _ _; refine wpList_stN rfl _ (.tmp 14) (.tmp 63) rfl #[.string p.sc, .string p.ta, .string p.ot, .string p.na, .string p.on, .int .u16 p.ch, .int .u32 p.le, .int .u8 p.ty, .int .u16 p.fl, .int .u8 p.de] (by simp [Act.eval, Act.put]) (by simp [Act.eval, Act.put]) (unhide SZ) rfl (by simp [Value.oneCell']) ?_; intro w8 hh bS zS; have D8 := hide hh; have S8 := hide ((unhide S7).later bS); clear hh bS zS S7)
    refine (unhide cP _).mono ?_
    rintro e w9 ⟨⟨r, rfl, r0, r1⟩, hw9⟩
    have hw9' := hw9.symm
    subst hw9'
    clear hw9 cP
    obtain ⟨I, rfl⟩ := Int.eq_ofNat_of_zero_le r0
    obtain ⟨xo, xc, hcut, hxb⟩ := (unhide S8).bs.cut_h (hi := I) (by omega) (I : Int) rfl
    have cR := hide (read_any xo I xc (L.take I) w8 hxb (by omega))
    obtain ⟨R4, hR4⟩ : ∃ z, z = coR (L.take I) := ⟨_, rfl⟩
    have hE4 : R4.2 = 4 := by rw [hR4]; exact unhide PP I (by omega)
    rw [← hR4] at cR
    obtain ⟨P4, E4⟩ := R4
    simp only at hE4
    subst hE4
    have SZ4 := hide (unhide SZ2 P4)
    clear hxb PP hR4 r0
    go_wp2_with fail
    refine (unhide cR).mono ?_
    rintro e w10 ⟨rfl, b⟩
    have S10 := hide ((unhide S8).later b)
    have D10 := hide (row_later (unhide D8) b)
    clear b cR S8 D8 hcut r1
    have hb9 : m + 1 ≤ 140737488355328 := by omega
    go_wp2_with (first
        | (with_reducible show wpList Try.prog _ _ (Oper.mk _ (Op.store 28 _ _) _ _ _ none :: _) _ _; refine wpList_stN rfl _ (.tmp 16) (.tmp 73) rfl #[.string P4.sc, .string P4.ta, .string P4.ot, .string P4.na, .string P4.on, .int .u16 P4.ch, .int .u32 P4.le, .int .u8 P4.ty, .int .u16 P4.fl, .int .u8 P4.de] (by simp [Act.eval, Act.put]) (by simp [Act.eval, Act.put]) (unhide SZ4) rfl (by simp [Value.oneCell']) ?_; intro w11 hh bS zS; have X11 := hide hh; have S11 := hide ((unhide S10).later bS); have D11 := hide (row_later (unhide D10) bS); clear hh bS zS S10)
        | (at_builtin; refine wpList_app rfl (.tmp 76) (.tmp 77) rfl w11.heap.size _ _ _ _ rfl (Mine.empty w11) _ _ _ _ rfl ((unhide S11).bs.later (below_alloc w11 _)) (by omega) (by simp) ?_; intro o12 k12 w12 m12 b12; rw [Nat.zero_add, List.nil_append] at m12; have M12 := hide m12; have B12 := hide ((below_alloc w11 (.cells #[] 5)).trans b12); clear m12 b12; have hz12 := (unhide B12).size)
        | (at_builtin; refine wpList_app rfl (.tmp 78) (.tmp 80) rfl w11.heap.size _ _ _ _ rfl ((unhide M12).later (below_alloc w12 _)) _ _ _ _ rfl (Bs.one w12 more hm0 hm1) (by omega) (by simp; omega) ?_; intro o13 k13 w13 m13 b13; have M13 := hide m13; have B13 := hide (((unhide B12).trans ((below_alloc w12 _).mono hz12)).trans b13); clear m13 b13))
    have cR := hide (read_any o13 (m + 1) k13 (L ++ [more]) w13 (unhide M13).bs (by omega))
    have S13 := hide ((unhide S11).later (unhide B13))
    have D13 := hide (row_later (unhide D11) (unhide B13))
    obtain ⟨R5, hR5⟩ : ∃ z, z = coR (L ++ [more]) := ⟨_, rfl⟩
    have hE5 : R5.2 = 5 := by rw [hR5]; exact unhide PM
    rw [← hR5] at cR
    obtain ⟨P5, E5⟩ := R5
    simp only at hE5
    subst hE5
    have SZ5 := hide (unhide SZ2 P5)
    clear S11 D11 X11 M12 M13 B12 B13 PM hR5 D10
    refine (unhide cR).mono ?_
    rintro e w14 ⟨rfl, b⟩
    have S14 := hide ((unhide S13).later b)
    have D14 := hide (row_later (unhide D13) b)
    clear b cR S13 D13
    have eqS := eql_self p
    go_wp2_with (first
        | (with_reducible show wpList Try.prog _ _ (Oper.mk _ (Op.store 28 _ _) _ _ _ none :: _) _ _; refine wpList_stN rfl _ (.tmp 18) (.tmp 83) rfl #[.string P5.sc, .string P5.ta, .string P5.ot, .string P5.na, .string P5.on, .int .u16 P5.ch, .int .u32 P5.le, .int .u8 P5.ty, .int .u16 P5.fl, .int .u8 P5.de] (by simp [Act.eval, Act.put]) (by simp [Act.eval, Act.put]) (unhide SZ5) rfl (by simp [Value.oneCell']) ?_; intro w15 hh bS zS; have X15 := hide hh; have S15 := hide ((unhide S14).later bS); have D15 := hide (row_later (unhide D14) bS); have R15 := hide (unhide S15).row; clear hh bS zS S14)
        | (with_reducible show wpList Try.prog _ _ (Oper.mk (some 85) (Op.load _ _) _ _ _ none :: _) _ _; refine wpList_load_row rfl _ (.tmp 4) rfl (w.heap.size) (by simp [Act.eval, Act.put]) _ #[.string p.sc, .string p.ta, .string p.ot, .string p.na, .string p.on, .int .u16 p.ch, .int .u32 p.le, .int .u8 p.ty, .int .u16 p.fl, .int .u8 p.de] (0, 0) _ (unhide R15) Try.underlying28 rfl (unhide SZ) ?_)
        | (with_reducible show wpList Try.prog _ _ (Oper.mk (some 86) (Op.load _ _) _ _ _ none :: _) _ _; refine wpList_load_row rfl _ (.tmp 14) rfl (w7.heap.size) (by simp [Act.eval, Act.put]) _ #[.string p.sc, .string p.ta, .string p.ot, .string p.na, .string p.on, .int .u16 p.ch, .int .u32 p.le, .int .u8 p.ty, .int .u16 p.fl, .int .u8 p.de] (0, 0) _ (unhide D15) Try.underlying28 rfl (unhide SZ) ?_))
    go_ret
    exact ⟨rfl, (unhide S15).cs.bel⟩
  · rw [qn, if_pos rfl, List.nil_append] at cN
    have CB := hide (ct_back qn)
    refine (unhide cN _).mono ?_
    rintro e w4 ⟨ko, kn', kc, rfl, hk, b⟩
    have S4 := hide ((unhide S3).later b)
    have cC := hide (readCount_any ko kn' kc (form n) w4 hk.bs)
    rw [unhide CB] at cC
    clear b cN S3 qn hk CB
    generalize form n = FN at *
    go_wp2_with fail
    refine same_world (unhide cC) ?_
    have hnn : (n != n) = false := by simp
    clear cC
    obtain ⟨w5, hw5⟩ : ∃ z, z = w4 := ⟨_, rfl⟩
    subst hw5
    have S5 := hide (unhide S4)
    clear S4
    have R5 := hide (unhide S5).row
    go_wp2_with (with_reducible show wpList Try.prog _ _ (Oper.mk _ (Op.load 28 _) _ _ _ none :: _) _ _; refine wpList_load_row rfl _ (.tmp 4) rfl w.heap.size (by simp [Act.eval, Act.put]) _ #[.string p.sc, .string p.ta, .string p.ot, .string p.na, .string p.on, .int .u16 p.ch, .int .u32 p.le, .int .u8 p.ty, .int .u16 p.fl, .int .u8 p.de] (0, 0) _ (unhide R5) Try.underlying28 rfl (unhide SZ) ?_)
    cases q : cOk p
    · rw [q, if_neg (by decide)] at cA cK
      refine (unhide cA _).mono ?_
      rintro e w6 ⟨rfl, b⟩
      have S6 := hide ((unhide S5).later b)
      have R6 := hide (unhide S6).row
      clear b cA S5 R5
      go_wp2_with (with_reducible show wpList Try.prog _ _ (Oper.mk _ (Op.load 28 _) _ _ _ none :: _) _ _; refine wpList_load_row rfl _ (.tmp 4) rfl w.heap.size (by simp [Act.eval, Act.put]) _ #[.string p.sc, .string p.ta, .string p.ot, .string p.na, .string p.on, .int .u16 p.ch, .int .u32 p.le, .int .u8 p.ty, .int .u16 p.fl, .int .u8 p.de] (0, 0) _ (unhide R6) Try.underlying28 rfl (unhide SZ) ?_)
      refine (unhide cK _).mono ?_
      rintro e w7 ⟨rfl, b⟩
      have S7 := hide ((unhide S6).later b)
      clear b cK S6 R6
      go_wp2_with fail
      go_ret
      exact ⟨rfl, (unhide S7).bel⟩
    rw [q, if_pos rfl, List.nil_append] at cA
    obtain ⟨lmx, lps⟩ := coB_len q
    have PB := hide (co_back q (unhide HK))
    have PP := hide (fun k hk => co_part (k := k) q (unhide HK) hk)
    have PM := hide (co_more q (unhide HK) more)
    clear q cK
    generalize coB p = L at *
    refine (unhide cA _).mono ?_
    rintro e w6 ⟨ao, m, c, rfl, hm, b⟩
    have hlen := hm.len
    have hle := hm.bs.le
    have hmx := hm.bs.max
    have S6 := hide (show Cw w p ao m c L w6 from ⟨(unhide S5).later b, hm.bs⟩)
    clear b cA S5 R5 hm
    have hm9 : m ≤ 100000 := by omega
    have hm0' : 0 < m := by omega
    have cR := hide (fun (wx : World) (h : Cw w p ao m c L wx) => read_any ao m c L wx h.bs (by omega))
    rw [unhide PB] at cR
    go_wp2_with fail
    refine (unhide cR _ (unhide S6)).mono ?_
    rintro e w7 ⟨rfl, b⟩
    have S7 := hide ((unhide S6).later b)
    clear b cR S6 PB
    have cP := hide (fun wx => pick_any cut (m : Int) wx (by omega) (by omega))
    go_wp2_with (with_reducible show wpList Try.prog _ _ (Oper.mk _ (Op.store 28 _ _) _ _ _ none :: _) _ _; refine wpList_stN rfl _ (.tmp 14) (.tmp 63) rfl #[.string p.sc, .string p.ta, .string p.ot, .string p.na, .string p.on, .int .u16 p.ch, .int .u32 p.le, .int .u8 p.ty, .int .u16 p.fl, .int .u8 p.de] (by simp [Act.eval, Act.put]) (by simp [Act.eval, Act.put]) (unhide SZ) rfl (by simp [Value.oneCell']) ?_; intro w8 hh bS zS; have D8 := hide hh; have S8 := hide ((unhide S7).later bS); clear hh bS zS S7)
    refine (unhide cP _).mono ?_
    rintro e w9 ⟨⟨r, rfl, r0, r1⟩, hw9⟩
    have hw9' := hw9.symm
    subst hw9'
    clear hw9 cP
    obtain ⟨I, rfl⟩ := Int.eq_ofNat_of_zero_le r0
    obtain ⟨xo, xc, hcut, hxb⟩ := (unhide S8).bs.cut_h (hi := I) (by omega) (I : Int) rfl
    have cR := hide (read_any xo I xc (L.take I) w8 hxb (by omega))
    obtain ⟨R4, hR4⟩ : ∃ z, z = coR (L.take I) := ⟨_, rfl⟩
    have hE4 : R4.2 = 4 := by rw [hR4]; exact unhide PP I (by omega)
    rw [← hR4] at cR
    obtain ⟨P4, E4⟩ := R4
    simp only at hE4
    subst hE4
    have SZ4 := hide (unhide SZ2 P4)
    clear hxb PP hR4 r0
    go_wp2_with fail
    refine (unhide cR).mono ?_
    rintro e w10 ⟨rfl, b⟩
    have S10 := hide ((unhide S8).later b)
    have D10 := hide (row_later (unhide D8) b)
    clear b cR S8 D8 hcut r1
    have hb9 : m + 1 ≤ 140737488355328 := by omega
    go_wp2_with (first
        | (with_reducible show wpList Try.prog _ _ (Oper.mk _ (Op.store 28 _ _) _ _ _ none :: _) _ _; refine wpList_stN rfl _ (.tmp 16) (.tmp 73) rfl #[.string P4.sc, .string P4.ta, .string P4.ot, .string P4.na, .string P4.on, .int .u16 P4.ch, .int .u32 P4.le, .int .u8 P4.ty, .int .u16 P4.fl, .int .u8 P4.de] (by simp [Act.eval, Act.put]) (by simp [Act.eval, Act.put]) (unhide SZ4) rfl (by simp [Value.oneCell']) ?_; intro w11 hh bS zS; have X11 := hide hh; have S11 := hide ((unhide S10).later bS); have D11 := hide (row_later (unhide D10) bS); clear hh bS zS S10)
        | (at_builtin; refine wpList_app rfl (.tmp 76) (.tmp 77) rfl w11.heap.size _ _ _ _ rfl (Mine.empty w11) _ _ _ _ rfl ((unhide S11).bs.later (below_alloc w11 _)) (by omega) (by simp) ?_; intro o12 k12 w12 m12 b12; rw [Nat.zero_add, List.nil_append] at m12; have M12 := hide m12; have B12 := hide ((below_alloc w11 (.cells #[] 5)).trans b12); clear m12 b12; have hz12 := (unhide B12).size)
        | (at_builtin; refine wpList_app rfl (.tmp 78) (.tmp 80) rfl w11.heap.size _ _ _ _ rfl ((unhide M12).later (below_alloc w12 _)) _ _ _ _ rfl (Bs.one w12 more hm0 hm1) (by omega) (by simp; omega) ?_; intro o13 k13 w13 m13 b13; have M13 := hide m13; have B13 := hide (((unhide B12).trans ((below_alloc w12 _).mono hz12)).trans b13); clear m13 b13))
    have cR := hide (read_any o13 (m + 1) k13 (L ++ [more]) w13 (unhide M13).bs (by omega))
    have S13 := hide ((unhide S11).later (unhide B13))
    have D13 := hide (row_later (unhide D11) (unhide B13))
    obtain ⟨R5, hR5⟩ : ∃ z, z = coR (L ++ [more]) := ⟨_, rfl⟩
    have hE5 : R5.2 = 5 := by rw [hR5]; exact unhide PM
    rw [← hR5] at cR
    obtain ⟨P5, E5⟩ := R5
    simp only at hE5
    subst hE5
    have SZ5 := hide (unhide SZ2 P5)
    clear S11 D11 X11 M12 M13 B12 B13 PM hR5 D10
    refine (unhide cR).mono ?_
    rintro e w14 ⟨rfl, b⟩
    have S14 := hide ((unhide S13).later b)
    have D14 := hide (row_later (unhide D13) b)
    clear b cR S13 D13
    have eqS := eql_self p
    go_wp2_with (first
        | (with_reducible show wpList Try.prog _ _ (Oper.mk _ (Op.store 28 _ _) _ _ _ none :: _) _ _; refine wpList_stN rfl _ (.tmp 18) (.tmp 83) rfl #[.string P5.sc, .string P5.ta, .string P5.ot, .string P5.na, .string P5.on, .int .u16 P5.ch, .int .u32 P5.le, .int .u8 P5.ty, .int .u16 P5.fl, .int .u8 P5.de] (by simp [Act.eval, Act.put]) (by simp [Act.eval, Act.put]) (unhide SZ5) rfl (by simp [Value.oneCell']) ?_; intro w15 hh bS zS; have X15 := hide hh; have S15 := hide ((unhide S14).later bS); have D15 := hide (row_later (unhide D14) bS); have R15 := hide (unhide S15).row; clear hh bS zS S14)
        | (with_reducible show wpList Try.prog _ _ (Oper.mk (some 85) (Op.load _ _) _ _ _ none :: _) _ _; refine wpList_load_row rfl _ (.tmp 4) rfl (w.heap.size) (by simp [Act.eval, Act.put]) _ #[.string p.sc, .string p.ta, .string p.ot, .string p.na, .string p.on, .int .u16 p.ch, .int .u32 p.le, .int .u8 p.ty, .int .u16 p.fl, .int .u8 p.de] (0, 0) _ (unhide R15) Try.underlying28 rfl (unhide SZ) ?_)
        | (with_reducible show wpList Try.prog _ _ (Oper.mk (some 86) (Op.load _ _) _ _ _ none :: _) _ _; refine wpList_load_row rfl _ (.tmp 14) rfl (w7.heap.size) (by simp [Act.eval, Act.put]) _ #[.string p.sc, .string p.ta, .string p.ot, .string p.na, .string p.on, .int .u16 p.ch, .int .u32 p.le, .int .u8 p.ty, .int .u16 p.fl, .int .u8 p.de] (0, 0) _ (unhide D15) Try.underlying28 rfl (unhide SZ) ?_))
    go_ret
    exact ⟨rfl, (unhide S15).cs.bel⟩

end Go.Proofs.Ytgdjeooiimjjcaa
