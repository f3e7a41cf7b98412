/-
  GreetNames walked: the chapter's examples come out as they are written. Conditions: none.
-/
import Derived.Test.YtcaggmomeaoaaaaGpLives
import Derived.Test.YtcaggmomeaoaaaaGpApSw
import Derived.Test.YtcaggmomeaoaaaaGpSwitch
import Derived.Test.YtcaggmomeaoaaaaGpAnswer
import Derived.Test.YtcaggmomeaoaaaaGpMore
namespace Go.Proofs.Ytcaggmomeaoaaaa
open Go.RowKit
set_option linter.unusedVariables false
set_option linter.unusedSimpArgs false

def natP : ByteArray := { data := #[109, 121, 115, 113, 108, 95, 110, 97, 116, 105, 118, 101, 95, 112, 97, 115, 115, 119, 111, 114, 100] }
def exS : Sw := ⟨natP, n20⟩
theorem exS_ok : sOk exS = true := by kernel_rfl
theorem exS_len : ([] ++ swB exS).length = 44 := by kernel_rfl
theorem exS_any (xo : Option Addr) (xc : Nat) (w : World) (h : Bs w xo 20 xc n20) :
    Calls Try.prog 6 #[.slice none 0 0, .agg #[.string { data := #[109, 121, 115, 113, 108, 95, 110, 97, 116, 105, 118, 101, 95, 112, 97, 115, 115, 119, 111, 114, 100] }, .slice xo 20 xc]] w fun e w' => ∃ ao c, e = .returned (.tuple #[.slice ao 44 c, .int .i64 0]) ∧ Below w.heap.size w w' := by
  have c := appendSwitch_any none 0 0 [] xo 20 xc exS w (Bs.nought w) h (by decide)
  rw [if_pos exS_ok] at c
  refine c.mono ?_
  rintro e w' ⟨ao, n, c, rfl, hm, hb⟩
  have hn := hm.len
  rw [exS_len] at hn
  subst hn
  exact ⟨ao, c, rfl, hb⟩
theorem sw_short : swR [254, 97] = (⟨⟨#[]⟩, []⟩, 4) := by kernel_rfl
theorem mo_three : moR [1, 3] = ([3], 0) := by kernel_rfl
theorem mo_bad : moR [2] = ([], 5) := by kernel_rfl
theorem an_nil : (anR []).2 = 4 := by kernel_rfl
theorem an_zero : (anR (List.replicate 32 0)).2 = 5 := by kernel_rfl
def noA : An := ⟨0, 0, 0, ⟨#[]⟩, [], ⟨#[]⟩, ⟨#[]⟩, []⟩
theorem noA_no : aOk noA = false := by kernel_rfl
theorem noA_any (w : World) :
    Calls Try.prog 13 #[.slice none 0 0, .agg #[.int .u32 0, .int .u32 0, .int .u8 0, .string ⟨#[]⟩, .slice none 0 0, .string ⟨#[]⟩, .string ⟨#[]⟩, .slice none 0 0]] w fun e w' => e = .returned (.tuple #[.slice none 0 0, .int .i64 2]) ∧ Below w.heap.size w w' := by
  have c := appendAnswer_any none 0 0 [] none 0 0 none 0 0 noA w (Bs.nought w) (Bs.nought w) (As.nought w) ⟨by decide, by decide, by decide⟩ (by decide)
  rw [if_neg (by rw [noA_no]; decide)] at c
  exact c
theorem exSw_any (xo : Option Addr) (xc : Nat) (w : World) (h : Bs w xo 2 xc [254, 97]) :
    Calls Try.prog 8 #[.slice xo 2 xc] w fun e w' => ∃ ao n c, e = .returned (.tuple #[.agg #[.string ⟨#[]⟩, .slice ao n c], .int .i64 4]) ∧ Below w.heap.size w w' := by
  have c := readSwitch_any xo 2 xc _ w h (by omega)
  rw [sw_short] at c
  refine c.mono ?_
  rintro e w' ⟨ao, n, c, rfl, _, hb⟩
  exact ⟨_, _, _, rfl, hb⟩
theorem exAn_any (xo : Option Addr) (n xc : Nat) (b : List Int) (E : Int) (hE : (anR b).2 = E) (w : World) (h : Bs w xo n xc b) (hn : n ≤ 100) :
    Calls Try.prog 12 #[.slice xo n xc] w fun e w' => ∃ v, e = .returned (.tuple #[v, .int .i64 E]) ∧ Below w.heap.size w w' := by
  have c := readAnswer_any xo n xc _ w h (by omega)
  refine c.mono ?_
  rintro e w' ⟨xo, xn, xc, yo, yn, yc, rfl, _, _, hb⟩
  rw [hE]
  exact ⟨_, rfl, hb⟩

set_option maxHeartbeats 4000000 in
set_option maxRecDepth 100000 in
theorem lawGrNames (w : World) : Calls Try.prog 3 #[] w fun e w' => e = .returned (.bool true) ∧ Below w.heap.size w w' := by
  have nc := hide (lawNonce_any w)
  go_enter Try.func3, Try.ntmps3
  go_wp2_with fail
  refine (unhide nc).mono ?_
  rintro e w1 ⟨a1, c1, rfl, m1, b1⟩
  have cG := hide (exS_any a1 c1 w1 m1.bs)
  have B1 := hide b1
  clear m1 b1 nc
  go_wp2_with fail
  refine (unhide cG).mono ?_
  rintro e w2 ⟨a2, c2, rfl, b2⟩
  have B2 := hide ((unhide B1).trans (b2.mono (unhide B1).size))
  have lb := Bs.lit w2 [254, 97] (by intro x hx; simp at hx; omega) (by decide)
  have cR := hide (exSw_any _ _ _ lb)
  have B3 := hide ((unhide B2).trans ((below_alloc w2 (.cells #[.int .u8 254, .int .u8 97] 5)).mono (unhide B2).size))
  clear b2 cG B1 lb B2
  go_wp2_with fail
  refine (unhide cR).mono ?_
  rintro e w4 ⟨a4, n4, c4, rfl, b4⟩
  have B4 := hide ((unhide B3).trans (b4.mono (unhide B3).size))
  clear b4 B3 cR
  have b5 := below_alloc w4 (.cells #[.string ⟨#[]⟩, .slice a4 n4 c4] 28)
  have B5 := hide ((unhide B4).trans (b5.mono (unhide B4).size))
  obtain ⟨w5, hw5⟩ : ∃ z, z = w4.alloc (.cells #[.string ⟨#[]⟩, .slice a4 n4 c4] 28) := ⟨_, rfl⟩
  rw [← hw5] at B5
  have HW5 := hide hw5
  have lb := Bs.lit w5 [1, 3] (by intro x hx; simp at hx; omega) (by decide)
  have cM := hide (readMore_any _ _ _ _ _ lb (by decide))
  rw [mo_three] at cM
  have B6 := hide ((unhide B5).trans ((below_alloc w5 (.cells #[.int .u8 1, .int .u8 3] 5)).mono (unhide B5).size))
  clear b5 lb B4 hw5
  go_upto_region 4 with fail
  rw [← unhide HW5]
  clear HW5
  go_wp2_with fail
  refine (unhide cM).mono ?_
  rintro e w7 ⟨a7, n7, c7, rfl, s7, b7⟩
  have B7 := hide ((unhide B6).trans (b7.mono (unhide B6).size))
  have S7 := hide s7
  have l8 := Bs.lit w7 [2] (by intro x hx; simp at hx; omega) (by decide)
  have cN := hide (readMore_any _ _ _ _ _ l8 (by decide))
  rw [mo_bad] at cN
  have b8 := below_alloc w7 (.cells #[.int .u8 2] 5)
  have B8 := hide ((unhide B7).trans (b8.mono (unhide B7).size))
  have S8 := hide ((unhide S7).later b8)
  clear b7 s7 cM l8 b8 B6 B7 S7
  go_wp2_with fail
  refine (unhide cN).mono ?_
  rintro e w9 ⟨a9, n9, c9, rfl, s9, b9⟩
  have B9 := hide ((unhide B8).trans (b9.mono (unhide B8).size))
  have S9 := (unhide S8).later b9
  -- SameBytes(m, {3})
  have b10 := below_alloc w9 (.cells #[.int .u8 3] 5)
  have cS := hide (sameBytes_any a7 n7 c7 [3] _ 1 1 [3] _ (S9.later b10) (Bs.one w9 3 (by omega) (by omega)))
  rw [decide_eq_true rfl] at cS
  have B10 := hide ((unhide B9).trans (b10.mono (unhide B9).size))
  obtain ⟨w10, hw10⟩ : ∃ z, z = w9.alloc (.cells #[.int .u8 3] 5) := ⟨_, rfl⟩
  rw [← hw10] at B10
  -- AppendMore(nil, {3})
  have b11 := below_alloc w10 (.cells #[.int .u8 3] 5)
  have cA := hide (appendMore_any none 0 0 [] _ 1 1 [3] _ (Bs.nought _) (Bs.one w10 3 (by omega) (by omega)) (by decide))
  have B11 := hide ((unhide B10).trans (b11.mono (unhide B10).size))
  have e10 : w10.heap.size = w9.heap.size + 1 := by rw [hw10]; simp
  rw [e10] at cA
  have HW10 := hide hw10
  clear s9 b9 cN b10 b11 S9 B8 B9 hw10 S8 e10
  go_wp2_with fail
  refine same_world (unhide cS) ?_
  go_wp2_with fail
  rw [← unhide HW10]
  refine (unhide cA).mono ?_
  rintro e w12 ⟨a12, n12, c12, rfl, m12, b12⟩
  have B12 := hide ((unhide B11).trans (b12.mono (unhide B11).size))
  have b13 := below_alloc w12 (.cells #[.int .u8 1, .int .u8 3] 5)
  have cT := hide (sameBytes_any a12 n12 c12 (([] ++ [1]) ++ [3]) _ _ _ [1, 3] _ (m12.bs.later b13) (Bs.lit w12 [1, 3] (by intro x hx; simp at hx; omega) (by decide)))
  rw [show decide (([] ++ [1]) ++ [3] = ([1, 3] : List Int)) = true from rfl] at cT
  have B13 := hide ((unhide B12).trans (b13.mono (unhide B12).size))
  obtain ⟨w13, hw13⟩ : ∃ z, z = w12.alloc (.cells #[.int .u8 1, .int .u8 3] 5) := ⟨_, rfl⟩
  rw [← hw13] at B13
  have cU := hide (exAn_any none 0 0 [] 4 an_nil w13 (Bs.nought _) (by omega))
  have HW13 := hide hw13
  clear m12 b12 b13 hw13 B12 B11 B10 cA cS HW10
  go_wp2_with fail
  refine same_world (unhide cT) ?_
  go_wp2_with fail
  rw [← unhide HW13]
  refine (unhide cU).mono ?_
  rintro e w14 ⟨v14, rfl, b14⟩
  have B14 := hide ((unhide B13).trans (b14.mono (unhide B13).size))
  clear b14 B13 cU HW13 cT
  go_wp2_with (at_make; refine wpList_mkFull rfl _ _ rfl _ _ _ _ 32 rfl rfl rfl rfl (by omega) ?_; intro w15 m15 b15 z15; have cV := hide (exAn_any _ 32 _ _ 5 an_zero w15 m15.bs (by omega)); have B15 := hide ((unhide B14).trans (b15.mono (unhide B14).size)); clear m15 b15 z15)
  refine (unhide cV).mono ?_
  rintro e w16 ⟨v16, rfl, b16⟩
  have B16 := hide ((unhide B15).trans (b16.mono (unhide B15).size))
  clear b16 B15 cV B14
  have cX := hide (noA_any w16)
  go_wp2_with fail
  refine (unhide cX).mono ?_
  rintro e w17 ⟨rfl, b17⟩
  have B17 := hide ((unhide B16).trans (b17.mono (unhide B16).size))
  clear b17 B16 cX
  have cL := hide (lives_any w17)
  go_wp2_with fail
  refine (unhide cL).mono ?_
  rintro e w18 ⟨rfl, b18⟩
  have B18 := hide ((unhide B17).trans (b18.mono (unhide B17).size))
  clear b18 B17 cL
  go_wp2_with fail
  go_ret
  exact ⟨rfl, unhide B18⟩

end Go.Proofs.Ytcaggmomeaoaaaa
