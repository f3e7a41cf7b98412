/-
  The law ZlibNames returns true: the chapter's worked examples come out as they are written. Conditions: the tables hold what the program's text says.
-/
import Derived.Test.YtalkeooejobjhaaDoorZlbLives
namespace Go.Proofs.YtalkeooejobjhaaDoor
open Go.RowKit
set_option linter.unusedVariables false
set_option linter.unusedSimpArgs false

theorem zn1 : unp 100000 exA 0 = ([], 3) := by kernel_rfl
theorem zn2 : unp 100000 [120, 1, 75, 4, 0, 0, 98, 0] 1 = ([], 4) := by kernel_rfl
theorem zn3 : unp 100000 (exA ++ [0]) 1 = ([], 5) := by kernel_rfl
theorem zn4 : unp 100000 [120, 1, 75, 4, 0, 0, 98, 0, 99] 1 = ([], 8) := by kernel_rfl
theorem zn5 : unp 100000 [120, 2] 1 = ([], 5) := by kernel_rfl
theorem zn6 : pkd [] = [120, 1, 3, 0, 0, 0, 0, 1] := by kernel_rfl
theorem zn7 : hdE [120, 156] = 0 := by kernel_rfl
theorem zn8 : hdE [120] = 4 := by kernel_rfl
theorem zn9 : hdE [8, 29] = 0 := by kernel_rfl

/-- Head of bytes that are written out. -/
theorem head_lit (w : World) (C : Array Value) (l : List Int) (hC : C = (l.map (Value.int .u8)).toArray) (h : Byt l) (hl : l.length ≤ 1000) (n : Nat) (hn : n = l.length) (r : Int) (hr : hdE l = r) :
    Calls Tryd.prog 11 #[.slice (some ⟨w.heap.size, 0, none⟩) n n] (w.alloc (.cells C 5)) fun e w' => e = .returned (.int .i64 r) ∧ Below w.heap.size w w' := by
  subst hC hn hr
  refine (head_any _ _ _ _ l (Bs.lit w l h hl)).mono ?_
  rintro e w' ⟨rfl, hb⟩
  exact ⟨rfl, (below_alloc w _).trans (hb.mono (by simp))⟩

set_option maxHeartbeats 8000000 in
set_option maxRecDepth 20000 in
theorem lawZlbNames (w : World) (hv : Vars w) : Calls Tryd.prog 3 #[] w fun e w' => e = .returned (.bool true) ∧ Below w.heap.size w w' := by
  have HV := hide hv
  have BA := hide (below_alloc w (.cells #[.int .u8 120, .int .u8 1, .int .u8 75, .int .u8 4, .int .u8 0, .int .u8 0, .int .u8 98, .int .u8 0, .int .u8 98] 5))
  have A0 := hide (show Bs (w.alloc (.cells #[.int .u8 120, .int .u8 1, .int .u8 75, .int .u8 4, .int .u8 0, .int .u8 0, .int .u8 98, .int .u8 0, .int .u8 98] 5)) (some ⟨w.heap.size, 0, none⟩) 9 9 exA from Bs.lit w exA (byt8 (by decide)) (by decide))
  have u1 := hide (unpack_any 100000 _ _ 9 9 exA 0 (unhide A0) (hv.low (unhide BA)) (by omega) (by omega) (by omega))
  rw [zn1] at u1
  clear hv
  go_enter Tryd.func3, Tryd.ntmps3
  go_wp2_with fail
  refine (unhide u1).mono ?_
  rintro e w1 ⟨a1, n1, c1, rfl, m1, b1⟩
  have A1 := hide ((unhide A0).later b1)
  have B1 := hide ((unhide BA).trans (b1.mono (unhide BA).size))
  have P1 := hide (Bs.pre (n := 8) (m := 1) (bs := [120, 1, 75, 4, 0, 0, 98, 0]) (cs := [98]) (unhide A1) rfl)
  have u2 := hide (unpack_any 100000 w1 _ 8 9 [120, 1, 75, 4, 0, 0, 98, 0] 1 (unhide P1) ((unhide HV).low (unhide B1)) (by omega) (by omega) (by omega))
  rw [zn2] at u2
  clear m1 b1 u1 A0 BA
  go_wp2_with fail
  refine (unhide u2).mono ?_
  rintro e w2 ⟨a2, n2, c2, rfl, m2, b2⟩
  have A2 := hide ((unhide A1).later b2)
  have B2 := hide ((unhide B1).trans (b2.mono (unhide B1).size))
  have AA := hide ((unhide A2).later (below_alloc w2 (.cells #[] 5)))
  have ME := hide (Mine.empty w2)
  have z3 : w2.heap.size ≤ (w2.alloc (.cells #[] 5)).heap.size := by simp
  clear m2 b2 u2 A1 B1 P1
  go_wp2_with (first
    | (at_builtin; refine wpList_app rfl (.tmp 26) (.tmp 27) rfl w2.heap.size _ 0 0 _ rfl (unhide ME) _ 9 9 _ rfl (unhide AA) (by omega) z3 ?_; intro a3 c3 w3 m3 b3; simp only [Nat.zero_add, List.nil_append] at m3; have M3 := hide (m3.later (below_alloc w3 (.cells #[.int .u8 0] 5))); have O3 := hide (Bs.one w3 0 (by omega) (by omega)); have B3 := hide ((below_alloc w2 (.cells #[] 5)).trans b3); have z4 : w3.heap.size ≤ (w3.alloc (.cells #[.int .u8 0] 5)).heap.size := (by simp); clear m3 b3)
    | (at_builtin; refine wpList_app rfl (.tmp 28) (.tmp 29) rfl w2.heap.size _ _ _ _ rfl (unhide M3) _ 1 1 _ rfl (unhide O3) (by omega) (Nat.le_trans (unhide B3).size z4) ?_; intro a4 c4 w4 m4 b4))
  have B4 := hide ((unhide B2).trans (((unhide B3).trans (((below_alloc w3 (.cells #[.int .u8 0] 5)).mono (unhide B3).size).trans b4)).mono (unhide B2).size))
  have u3 := hide (unpack_any 100000 w4 a4 10 c4 (exA ++ [0]) 1 m4.bs ((unhide HV).low (unhide B4)) (by omega) (by omega) (by omega))
  rw [zn3] at u3
  clear m4 b4 B3 M3 O3 A2 B2 AA ME z4 z3
  refine (unhide u3).mono ?_
  rintro e w5 ⟨a5, n5, c5, rfl, m5, b5⟩
  have B5 := hide ((unhide B4).trans (b5.mono (unhide B4).size))
  have u4 := hide (unp_lit w5 ((unhide HV).low (unhide B5)) _ [120, 1, 75, 4, 0, 0, 98, 0, 99] rfl (byt8 (by decide)) (by decide) 9 rfl 1 (by decide) _ zn4)
  clear m5 b5 u3 B4
  go_wp2_with fail
  refine (unhide u4).mono ?_
  rintro e w6 ⟨a6, n6, c6, rfl, i6, b6⟩
  have B6 := hide ((unhide B5).trans (b6.mono (unhide B5).size))
  have u5 := hide (unp_lit w6 ((unhide HV).low (unhide B6)) _ [120, 2] rfl (byt8 (by decide)) (by decide) 2 rfl 1 (by decide) _ zn5)
  clear i6 b6 u4 B5
  go_wp2_with fail
  refine (unhide u5).mono ?_
  rintro e w7 ⟨a7, n7, c7, rfl, i7, b7⟩
  have B7 := hide ((unhide B6).trans (b7.mono (unhide B6).size))
  have lc := hide (zlives_any w7 ((unhide HV).low (unhide B7)))
  clear i7 b7 u5 B6
  go_wp2_with fail
  refine (unhide lc).mono ?_
  rintro e w8 ⟨rfl, b8⟩
  have B8 := hide ((unhide B7).trans (b8.mono (unhide B7).size))
  have pc := hide (pack_any w8 none 0 0 [] (Bs.nought w8) (by omega))
  rw [zn6] at pc
  clear b8 lc B7
  go_wp2_with fail
  refine (unhide pc).mono ?_
  rintro e w9 ⟨a9, n9, c9, rfl, m9, b9⟩
  have B9 := hide ((unhide B8).trans (b9.mono (unhide B8).size))
  have sc := hide (same_lit w9 a9 n9 c9 [120, 1, 3, 0, 0, 0, 0, 1] m9.bs _ rfl (byt8 (by decide)) (by decide) 8 rfl)
  clear m9 b9 pc B8
  go_wp2_with fail
  refine (unhide sc).mono ?_
  rintro e w10 ⟨rfl, b10⟩
  have B10 := hide ((unhide B9).trans (b10.mono (unhide B9).size))
  have h1 := hide (head_lit w10 _ [120, 156] rfl (byt8 (by decide)) (by decide) 2 rfl _ zn7)
  clear b10 sc B9
  go_wp2_with fail
  refine (unhide h1).mono ?_
  rintro e w11 ⟨rfl, b11⟩
  have B11 := hide ((unhide B10).trans (b11.mono (unhide B10).size))
  have h2 := hide (head_lit w11 _ [120] rfl (byt8 (by decide)) (by decide) 1 rfl _ zn8)
  clear b11 h1 B10
  go_wp2_with fail
  refine (unhide h2).mono ?_
  rintro e w12 ⟨rfl, b12⟩
  have B12 := hide ((unhide B11).trans (b12.mono (unhide B11).size))
  have h3 := hide (head_lit w12 _ [8, 29] rfl (byt8 (by decide)) (by decide) 2 rfl _ zn9)
  clear b12 h2 B11
  go_wp2_with fail
  refine (unhide h3).mono ?_
  rintro e w13 ⟨rfl, b13⟩
  have B13 := hide ((unhide B12).trans (b13.mono (unhide B12).size))
  clear b13 h3 B12
  go_wp2_with fail
  go_ret
  exact ⟨rfl, unhide B13⟩
end Go.Proofs.YtalkeooejobjhaaDoor
