/-
  What Read of a column returns. It writes nothing that was there. Conditions: the slice can be read; at most 2 to the 40 bytes.
-/
import Derived.Test.YtgdjeooiimjjcaaClRd
import Derived.Test.YtgdjeooiimjjcaaClTx
import Derived.Test.YtgdjeooiimjjcaaClRow
import Derived.BigQuiet
import Derived.BigRegion
namespace Go.Proofs.Ytgdjeooiimjjcaa
open Go.RowKit
set_option linter.unusedVariables false
set_option linter.unusedSimpArgs false

def OutCo (w : World) (R : Co × Int) (e : Ending) (w' : World) : Prop := e = .returned (.tuple #[.agg #[.string R.1.sc, .string R.1.ta, .string R.1.ot, .string R.1.na, .string R.1.on, .int .u16 R.1.ch, .int .u32 R.1.le, .int .u8 R.1.ty, .int .u16 R.1.fl, .int .u8 R.1.de], .int .i64 R.2]) ∧ Below w.heap.size w w'

set_option maxHeartbeats 8000000 in
set_option maxRecDepth 100000 in
theorem read_any (bo : Option Addr) (bn bc : Nat) (b : List Int) (w : World) (h : Bs w bo bn bc b) (hn : bn ≤ 1099511627776) :
    Calls Try.prog 7 #[.slice bo bn bc] w fun e w' => OutCo w (coR b) e w' := by
  have HR0 := hide (show Rw w 28 #[.string ⟨#[]⟩, .string ⟨#[]⟩, .string ⟨#[]⟩, .string ⟨#[]⟩, .string ⟨#[]⟩, .int .u16 0, .int .u32 0, .int .u8 0, .int .u16 0, .int .u8 0] #[.string ⟨#[]⟩, .string ⟨#[]⟩, .string ⟨#[]⟩, .string ⟨#[]⟩, .string ⟨#[]⟩, .int .u16 0, .int .u32 0, .int .u8 0, .int .u16 0, .int .u8 0] (((w.alloc (.cells #[.string ⟨#[]⟩, .string ⟨#[]⟩, .string ⟨#[]⟩, .string ⟨#[]⟩, .string ⟨#[]⟩, .int .u16 0, .int .u32 0, .int .u8 0, .int .u16 0, .int .u8 0] 28)).alloc (.cells #[.slice bo bn bc, .int .i64 0] 46)).alloc (.cells #[.string ⟨#[]⟩, .string ⟨#[]⟩, .string ⟨#[]⟩, .string ⟨#[]⟩, .string ⟨#[]⟩, .int .u16 0, .int .u32 0, .int .u8 0, .int .u16 0, .int .u8 0] 28)) ⟨b, 0⟩ from Rw.new h hn _)
  clear h
  have c1 := hide (fun wx (hx : Fx (w.heap.size + 1) wx ⟨b, 0⟩) => text_fx (w.heap.size + 1) wx ⟨b, 0⟩ hx)
  obtain ⟨s1, hs1⟩ : ∃ z, z = txS ⟨b, 0⟩ := ⟨_, rfl⟩
  rw [← hs1] at c1
  obtain ⟨v1, hv1⟩ : ∃ z, z = txA ⟨b, 0⟩ := ⟨_, rfl⟩
  rw [← hv1] at c1
  have c2 := hide (fun wx (hx : Fx (w.heap.size + 1) wx s1) => want_fx (w.heap.size + 1) wx s1 (isDef v1) hx)
  obtain ⟨s2, hs2⟩ : ∃ z, z = waS s1 (isDef v1) := ⟨_, rfl⟩
  rw [← hs2] at c2
  have c3 := hide (fun wx (hx : Fx (w.heap.size + 1) wx s2) => text_fx (w.heap.size + 1) wx s2 hx)
  obtain ⟨s3, hs3⟩ : ∃ z, z = txS s2 := ⟨_, rfl⟩
  rw [← hs3] at c3
  obtain ⟨v3, hv3⟩ : ∃ z, z = txA s2 := ⟨_, rfl⟩
  rw [← hv3] at c3
  have c4 := hide (fun wx (hx : Fx (w.heap.size + 1) wx s3) => want_fx (w.heap.size + 1) wx s3 (decide (v3.size ≤ 255)) hx)
  obtain ⟨s4, hs4⟩ : ∃ z, z = waS s3 (decide (v3.size ≤ 255)) := ⟨_, rfl⟩
  rw [← hs4] at c4
  have c5 := hide (fun wx (hx : Fx (w.heap.size + 1) wx s4) => text_fx (w.heap.size + 1) wx s4 hx)
  obtain ⟨s5, hs5⟩ : ∃ z, z = txS s4 := ⟨_, rfl⟩
  rw [← hs5] at c5
  obtain ⟨v5, hv5⟩ : ∃ z, z = txA s4 := ⟨_, rfl⟩
  rw [← hv5] at c5
  have c6 := hide (fun wx (hx : Fx (w.heap.size + 1) wx s5) => want_fx (w.heap.size + 1) wx s5 (decide (v5.size ≤ 255)) hx)
  obtain ⟨s6, hs6⟩ : ∃ z, z = waS s5 (decide (v5.size ≤ 255)) := ⟨_, rfl⟩
  rw [← hs6] at c6
  have c7 := hide (fun wx (hx : Fx (w.heap.size + 1) wx s6) => text_fx (w.heap.size + 1) wx s6 hx)
  obtain ⟨s7, hs7⟩ : ∃ z, z = txS s6 := ⟨_, rfl⟩
  rw [← hs7] at c7
  obtain ⟨v7, hv7⟩ : ∃ z, z = txA s6 := ⟨_, rfl⟩
  rw [← hv7] at c7
  have c8 := hide (fun wx (hx : Fx (w.heap.size + 1) wx s7) => want_fx (w.heap.size + 1) wx s7 (decide (v7.size ≤ 255)) hx)
  obtain ⟨s8, hs8⟩ : ∃ z, z = waS s7 (decide (v7.size ≤ 255)) := ⟨_, rfl⟩
  rw [← hs8] at c8
  have c9 := hide (fun wx (hx : Fx (w.heap.size + 1) wx s8) => text_fx (w.heap.size + 1) wx s8 hx)
  obtain ⟨s9, hs9⟩ : ∃ z, z = txS s8 := ⟨_, rfl⟩
  rw [← hs9] at c9
  obtain ⟨v9, hv9⟩ : ∃ z, z = txA s8 := ⟨_, rfl⟩
  rw [← hv9] at c9
  have c10 := hide (fun wx (hx : Fx (w.heap.size + 1) wx s9) => want_fx (w.heap.size + 1) wx s9 (decide (v9.size ≤ 255)) hx)
  obtain ⟨s10, hs10⟩ : ∃ z, z = waS s9 (decide (v9.size ≤ 255)) := ⟨_, rfl⟩
  rw [← hs10] at c10
  have c11 := hide (fun wx (hx : Fx (w.heap.size + 1) wx s10) => text_fx (w.heap.size + 1) wx s10 hx)
  obtain ⟨s11, hs11⟩ : ∃ z, z = txS s10 := ⟨_, rfl⟩
  rw [← hs11] at c11
  obtain ⟨v11, hv11⟩ : ∃ z, z = txA s10 := ⟨_, rfl⟩
  rw [← hv11] at c11
  have c12 := hide (fun wx (hx : Fx (w.heap.size + 1) wx s11) => want_fx (w.heap.size + 1) wx s11 (decide (v11.size ≤ 255)) hx)
  obtain ⟨s12, hs12⟩ : ∃ z, z = waS s11 (decide (v11.size ≤ 255)) := ⟨_, rfl⟩
  rw [← hs12] at c12
  have c13 := hide (fun wx (hx : Fx (w.heap.size + 1) wx s12) => fixed_fx (w.heap.size + 1) wx s12 1 1 256 rfl (by omega) (by omega) (by decide) hx)
  obtain ⟨s13, hs13⟩ : ∃ z, z = fxS s12 1 := ⟨_, rfl⟩
  rw [← hs13] at c13
  obtain ⟨v13, hv13⟩ : ∃ z, z = fxA s12 1 := ⟨_, rfl⟩
  rw [← hv13] at c13
  have c14 := hide (fun wx (hx : Fx (w.heap.size + 1) wx s13) => want_fx (w.heap.size + 1) wx s13 (v13 == 12) hx)
  obtain ⟨s14, hs14⟩ : ∃ z, z = waS s13 (v13 == 12) := ⟨_, rfl⟩
  rw [← hs14] at c14
  have c15 := hide (fun wx (hx : Fx (w.heap.size + 1) wx s14) => fixed_fx (w.heap.size + 1) wx s14 2 2 65536 rfl (by omega) (by omega) (by decide) hx)
  obtain ⟨s15, hs15⟩ : ∃ z, z = fxS s14 2 := ⟨_, rfl⟩
  rw [← hs15] at c15
  obtain ⟨v15, hv15⟩ : ∃ z, z = fxA s14 2 := ⟨_, rfl⟩
  rw [← hv15] at c15
  have c16 := hide (fun wx (hx : Fx (w.heap.size + 1) wx s15) => fixed_fx (w.heap.size + 1) wx s15 4 4 4294967296 rfl (by omega) (by omega) (by decide) hx)
  obtain ⟨s16, hs16⟩ : ∃ z, z = fxS s15 4 := ⟨_, rfl⟩
  rw [← hs16] at c16
  obtain ⟨v16, hv16⟩ : ∃ z, z = fxA s15 4 := ⟨_, rfl⟩
  rw [← hv16] at c16
  have c17 := hide (fun wx (hx : Fx (w.heap.size + 1) wx s16) => fixed_fx (w.heap.size + 1) wx s16 1 1 256 rfl (by omega) (by omega) (by decide) hx)
  obtain ⟨s17, hs17⟩ : ∃ z, z = fxS s16 1 := ⟨_, rfl⟩
  rw [← hs17] at c17
  obtain ⟨v17, hv17⟩ : ∃ z, z = fxA s16 1 := ⟨_, rfl⟩
  rw [← hv17] at c17
  have c18 := hide (fun wx (hx : Fx (w.heap.size + 1) wx s17) => want_fx (w.heap.size + 1) wx s17 (kn v17) hx)
  obtain ⟨s18, hs18⟩ : ∃ z, z = waS s17 (kn v17) := ⟨_, rfl⟩
  rw [← hs18] at c18
  have c19 := hide (fun wx (hx : Fx (w.heap.size + 1) wx s18) => fixed_fx (w.heap.size + 1) wx s18 2 2 65536 rfl (by omega) (by omega) (by decide) hx)
  obtain ⟨s19, hs19⟩ : ∃ z, z = fxS s18 2 := ⟨_, rfl⟩
  rw [← hs19] at c19
  obtain ⟨v19, hv19⟩ : ∃ z, z = fxA s18 2 := ⟨_, rfl⟩
  rw [← hv19] at c19
  have c20 := hide (fun wx (hx : Fx (w.heap.size + 1) wx s19) => fixed_fx (w.heap.size + 1) wx s19 1 1 256 rfl (by omega) (by omega) (by decide) hx)
  obtain ⟨s20, hs20⟩ : ∃ z, z = fxS s19 1 := ⟨_, rfl⟩
  rw [← hs20] at c20
  obtain ⟨v20, hv20⟩ : ∃ z, z = fxA s19 1 := ⟨_, rfl⟩
  rw [← hv20] at c20
  have c21 := hide (fun wx (hx : Fx (w.heap.size + 1) wx s20) => fixed_fx (w.heap.size + 1) wx s20 2 2 65536 rfl (by omega) (by omega) (by decide) hx)
  obtain ⟨s21, hs21⟩ : ∃ z, z = fxS s20 2 := ⟨_, rfl⟩
  rw [← hs21] at c21
  obtain ⟨v21, hv21⟩ : ∃ z, z = fxA s20 2 := ⟨_, rfl⟩
  rw [← hv21] at c21
  have c22 := hide (fun wx (hx : Fx (w.heap.size + 1) wx s21) => want_fx (w.heap.size + 1) wx s21 (v21 == 0) hx)
  obtain ⟨s22, hs22⟩ : ∃ z, z = waS s21 (v21 == 0) := ⟨_, rfl⟩
  rw [← hs22] at c22
  obtain ⟨zz, hzz⟩ : ∃ z, z = decide (s22.b.length = 0) := ⟨_, rfl⟩
  have HZ := hide hzz
  have c23 := hide (fun wx (hx : Fx (w.heap.size + 1) wx s22) => want_fx (w.heap.size + 1) wx s22 (zz) hx)
  obtain ⟨s23, hs23⟩ : ∃ z, z = waS s22 (zz) := ⟨_, rfl⟩
  rw [← hs23] at c23
  have HRES := hide (show coR b = if s23.e = 0 then ((⟨v3, v5, v7, v9, v11, v15, v16, v17, v19, v20⟩ : Co), 0) else (co0, s23.e) by clear HZ; subst hs1 hv1 hs2 hs3 hv3 hs4 hs5 hv5 hs6 hs7 hv7 hs8 hs9 hv9 hs10 hs11 hv11 hs12 hs13 hv13 hs14 hs15 hv15 hs16 hv16 hs17 hv17 hs18 hs19 hv19 hs20 hv20 hs21 hv21 hs22 hs23 hzz; rfl)
  clear hs1 hv1 hs2 hs3 hv3 hs4 hs5 hv5 hs6 hs7 hv7 hs8 hs9 hv9 hs10 hs11 hv11 hs12 hs13 hv13 hs14 hs15 hv15 hs16 hv16 hs17 hv17 hs18 hs19 hv19 hs20 hv20 hs21 hv21 hs22 hs23 hzz
  generalize coR b = RR at *
  go_enter Try.func7, Try.ntmps7
  go_wp2_with fail
  refine (unhide c1 _ (unhide HR0).fx).mono ?_
  rintro e w1 ⟨⟨rfl, tl1⟩, ho⟩
  have HR1 := hide ((unhide HR0).call ho)
  clear ho c1 HR0
  have hd : (v1.toList == [100, 101, 102]) = isDef v1 := rfl
  go_wp2_with fail
  try rw [hd]
  refine (unhide c2 _ (unhide HR1).fx).mono ?_
  rintro e w2 ⟨rfl, ho⟩
  have HR2 := hide ((unhide HR1).call ho)
  clear ho c2 HR1
  clear hd
  go_wp2_with fail
  refine (texts_any (w.heap.size + 2) _).mono ?_
  rintro e w3 ⟨rfl, hb⟩
  have HR3 := hide ((unhide HR2).later hb)
  clear hb HR2
  go_wp2_with fail
  refine wp_loop_rounds 6 ?_
  rw [rounds_succ]
  have ix := px0 (w.heap.size + 2)
  go_wp2_with fail
  clear ix
  refine (unhide c3 _ (unhide HR3).fx).mono ?_
  rintro e w4 ⟨⟨rfl, tl3⟩, ho⟩
  have HR4 := hide ((unhide HR3).call ho)
  clear ho c3 HR3
  have q5 := (unhide HR4).cell (j := 0) (v := .string ⟨#[]⟩) rfl
  have qf5 := (unhide HR4).free 0
  have HR5 := hide ((unhide HR4).store 0 (.string v3) (cs' := #[.string v3, .string ⟨#[]⟩, .string ⟨#[]⟩, .string ⟨#[]⟩, .string ⟨#[]⟩, .int .u16 0, .int .u32 0, .int .u8 0, .int .u16 0, .int .u8 0]) rfl)
  have qn5 := (unhide HR5).cell (j := 0) (v := .string v3) rfl
  clear HR4
  have hd : decide ((v3.size : Int) ≤ 255) = decide (v3.size ≤ 255) := by rw [Bool.eq_iff_iff]; simp only [decide_eq_true_iff]; omega
  go_wp2_with fail
  clear q5 qf5 qn5 hd
  refine (unhide c4 _ (unhide HR5).fx).mono ?_
  rintro e w6 ⟨rfl, ho⟩
  have HR6 := hide ((unhide HR5).call ho)
  clear ho c4 HR5
  go_wp2_with fail
  rw [rounds_succ]
  have ix := px1 (w.heap.size + 2)
  go_wp2_with fail
  clear ix
  refine (unhide c5 _ (unhide HR6).fx).mono ?_
  rintro e w7 ⟨⟨rfl, tl5⟩, ho⟩
  have HR7 := hide ((unhide HR6).call ho)
  clear ho c5 HR6
  have q8 := (unhide HR7).cell (j := 1) (v := .string ⟨#[]⟩) rfl
  have qf8 := (unhide HR7).free 1
  have HR8 := hide ((unhide HR7).store 1 (.string v5) (cs' := #[.string v3, .string v5, .string ⟨#[]⟩, .string ⟨#[]⟩, .string ⟨#[]⟩, .int .u16 0, .int .u32 0, .int .u8 0, .int .u16 0, .int .u8 0]) rfl)
  have qn8 := (unhide HR8).cell (j := 1) (v := .string v5) rfl
  clear HR7
  have hd : decide ((v5.size : Int) ≤ 255) = decide (v5.size ≤ 255) := by rw [Bool.eq_iff_iff]; simp only [decide_eq_true_iff]; omega
  go_wp2_with fail
  clear q8 qf8 qn8 hd
  refine (unhide c6 _ (unhide HR8).fx).mono ?_
  rintro e w9 ⟨rfl, ho⟩
  have HR9 := hide ((unhide HR8).call ho)
  clear ho c6 HR8
  go_wp2_with fail
  rw [rounds_succ]
  have ix := px2 (w.heap.size + 2)
  go_wp2_with fail
  clear ix
  refine (unhide c7 _ (unhide HR9).fx).mono ?_
  rintro e w10 ⟨⟨rfl, tl7⟩, ho⟩
  have HR10 := hide ((unhide HR9).call ho)
  clear ho c7 HR9
  have q11 := (unhide HR10).cell (j := 2) (v := .string ⟨#[]⟩) rfl
  have qf11 := (unhide HR10).free 2
  have HR11 := hide ((unhide HR10).store 2 (.string v7) (cs' := #[.string v3, .string v5, .string v7, .string ⟨#[]⟩, .string ⟨#[]⟩, .int .u16 0, .int .u32 0, .int .u8 0, .int .u16 0, .int .u8 0]) rfl)
  have qn11 := (unhide HR11).cell (j := 2) (v := .string v7) rfl
  clear HR10
  have hd : decide ((v7.size : Int) ≤ 255) = decide (v7.size ≤ 255) := by rw [Bool.eq_iff_iff]; simp only [decide_eq_true_iff]; omega
  go_wp2_with fail
  clear q11 qf11 qn11 hd
  refine (unhide c8 _ (unhide HR11).fx).mono ?_
  rintro e w12 ⟨rfl, ho⟩
  have HR12 := hide ((unhide HR11).call ho)
  clear ho c8 HR11
  go_wp2_with fail
  rw [rounds_succ]
  have ix := px3 (w.heap.size + 2)
  go_wp2_with fail
  clear ix
  refine (unhide c9 _ (unhide HR12).fx).mono ?_
  rintro e w13 ⟨⟨rfl, tl9⟩, ho⟩
  have HR13 := hide ((unhide HR12).call ho)
  clear ho c9 HR12
  have q14 := (unhide HR13).cell (j := 3) (v := .string ⟨#[]⟩) rfl
  have qf14 := (unhide HR13).free 3
  have HR14 := hide ((unhide HR13).store 3 (.string v9) (cs' := #[.string v3, .string v5, .string v7, .string v9, .string ⟨#[]⟩, .int .u16 0, .int .u32 0, .int .u8 0, .int .u16 0, .int .u8 0]) rfl)
  have qn14 := (unhide HR14).cell (j := 3) (v := .string v9) rfl
  clear HR13
  have hd : decide ((v9.size : Int) ≤ 255) = decide (v9.size ≤ 255) := by rw [Bool.eq_iff_iff]; simp only [decide_eq_true_iff]; omega
  go_wp2_with fail
  clear q14 qf14 qn14 hd
  refine (unhide c10 _ (unhide HR14).fx).mono ?_
  rintro e w15 ⟨rfl, ho⟩
  have HR15 := hide ((unhide HR14).call ho)
  clear ho c10 HR14
  go_wp2_with fail
  rw [rounds_succ]
  have ix := px4 (w.heap.size + 2)
  go_wp2_with fail
  clear ix
  refine (unhide c11 _ (unhide HR15).fx).mono ?_
  rintro e w16 ⟨⟨rfl, tl11⟩, ho⟩
  have HR16 := hide ((unhide HR15).call ho)
  clear ho c11 HR15
  have q17 := (unhide HR16).cell (j := 4) (v := .string ⟨#[]⟩) rfl
  have qf17 := (unhide HR16).free 4
  have HR17 := hide ((unhide HR16).store 4 (.string v11) (cs' := #[.string v3, .string v5, .string v7, .string v9, .string v11, .int .u16 0, .int .u32 0, .int .u8 0, .int .u16 0, .int .u8 0]) rfl)
  have qn17 := (unhide HR17).cell (j := 4) (v := .string v11) rfl
  clear HR16
  have hd : decide ((v11.size : Int) ≤ 255) = decide (v11.size ≤ 255) := by rw [Bool.eq_iff_iff]; simp only [decide_eq_true_iff]; omega
  go_wp2_with fail
  clear q17 qf17 qn17 hd
  refine (unhide c12 _ (unhide HR17).fx).mono ?_
  rintro e w18 ⟨rfl, ho⟩
  have HR18 := hide ((unhide HR17).call ho)
  clear ho c12 HR17
  go_wp2_with fail
  rw [rounds_succ]
  go_wp2_with fail
  refine (unhide c13 _ (unhide HR18).fx).mono ?_
  rintro e w19 ⟨⟨rfl, bl13, bh13⟩, ho⟩
  have HR19 := hide ((unhide HR18).call ho)
  clear ho c13 HR18
  go_wp2_with fail
  refine (unhide c14 _ (unhide HR19).fx).mono ?_
  rintro e w20 ⟨rfl, ho⟩
  have HR20 := hide ((unhide HR19).call ho)
  clear ho c14 HR19
  go_wp2_with fail
  refine (unhide c15 _ (unhide HR20).fx).mono ?_
  rintro e w21 ⟨⟨rfl, bl15, bh15⟩, ho⟩
  have HR21 := hide ((unhide HR20).call ho)
  clear ho c15 HR20
  have q22 := (unhide HR21).cell (j := 5) (v := .int .u16 0) rfl
  have qf22 := (unhide HR21).free 5
  have HR22 := hide ((unhide HR21).store 5 (.int .u16 v15) (cs' := #[.string v3, .string v5, .string v7, .string v9, .string v11, .int .u16 v15, .int .u32 0, .int .u8 0, .int .u16 0, .int .u8 0]) rfl)
  have qn22 := (unhide HR22).cell (j := 5) (v := .int .u16 v15) rfl
  clear HR21
  go_wp2_with fail
  clear q22 qf22 qn22
  refine (unhide c16 _ (unhide HR22).fx).mono ?_
  rintro e w23 ⟨⟨rfl, bl16, bh16⟩, ho⟩
  have HR23 := hide ((unhide HR22).call ho)
  clear ho c16 HR22
  have q24 := (unhide HR23).cell (j := 6) (v := .int .u32 0) rfl
  have qf24 := (unhide HR23).free 6
  have HR24 := hide ((unhide HR23).store 6 (.int .u32 v16) (cs' := #[.string v3, .string v5, .string v7, .string v9, .string v11, .int .u16 v15, .int .u32 v16, .int .u8 0, .int .u16 0, .int .u8 0]) rfl)
  have qn24 := (unhide HR24).cell (j := 6) (v := .int .u32 v16) rfl
  clear HR23
  go_wp2_with fail
  clear q24 qf24 qn24
  refine (unhide c17 _ (unhide HR24).fx).mono ?_
  rintro e w25 ⟨⟨rfl, bl17, bh17⟩, ho⟩
  have HR25 := hide ((unhide HR24).call ho)
  clear ho c17 HR24
  have q26 := (unhide HR25).cell (j := 7) (v := .int .u8 0) rfl
  have qf26 := (unhide HR25).free 7
  have HR26 := hide ((unhide HR25).store 7 (.int .u8 v17) (cs' := #[.string v3, .string v5, .string v7, .string v9, .string v11, .int .u16 v15, .int .u32 v16, .int .u8 v17, .int .u16 0, .int .u8 0]) rfl)
  have qn26 := (unhide HR26).cell (j := 7) (v := .int .u8 v17) rfl
  clear HR25
  go_wp2_with fail
  clear q26 qf26 qn26
  refine (known_any v17 _ bl17 bh17).mono ?_
  rintro e w27 ⟨rfl, hb⟩
  have HR27 := hide ((unhide HR26).later hb)
  clear hb HR26
  go_wp2_with fail
  refine (unhide c18 _ (unhide HR27).fx).mono ?_
  rintro e w28 ⟨rfl, ho⟩
  have HR28 := hide ((unhide HR27).call ho)
  clear ho c18 HR27
  go_wp2_with fail
  refine (unhide c19 _ (unhide HR28).fx).mono ?_
  rintro e w29 ⟨⟨rfl, bl19, bh19⟩, ho⟩
  have HR29 := hide ((unhide HR28).call ho)
  clear ho c19 HR28
  have q30 := (unhide HR29).cell (j := 8) (v := .int .u16 0) rfl
  have qf30 := (unhide HR29).free 8
  have HR30 := hide ((unhide HR29).store 8 (.int .u16 v19) (cs' := #[.string v3, .string v5, .string v7, .string v9, .string v11, .int .u16 v15, .int .u32 v16, .int .u8 v17, .int .u16 v19, .int .u8 0]) rfl)
  have qn30 := (unhide HR30).cell (j := 8) (v := .int .u16 v19) rfl
  clear HR29
  go_wp2_with fail
  clear q30 qf30 qn30
  refine (unhide c20 _ (unhide HR30).fx).mono ?_
  rintro e w31 ⟨⟨rfl, bl20, bh20⟩, ho⟩
  have HR31 := hide ((unhide HR30).call ho)
  clear ho c20 HR30
  have q32 := (unhide HR31).cell (j := 9) (v := .int .u8 0) rfl
  have qf32 := (unhide HR31).free 9
  have HR32 := hide ((unhide HR31).store 9 (.int .u8 v20) (cs' := #[.string v3, .string v5, .string v7, .string v9, .string v11, .int .u16 v15, .int .u32 v16, .int .u8 v17, .int .u16 v19, .int .u8 v20]) rfl)
  have qn32 := (unhide HR32).cell (j := 9) (v := .int .u8 v20) rfl
  clear HR31
  go_wp2_with fail
  clear q32 qf32 qn32
  refine (unhide c21 _ (unhide HR32).fx).mono ?_
  rintro e w33 ⟨⟨rfl, bl21, bh21⟩, ho⟩
  have HR33 := hide ((unhide HR32).call ho)
  clear ho c21 HR32
  go_wp2_with fail
  refine (unhide c22 _ (unhide HR33).fx).mono ?_
  rintro e w34 ⟨rfl, ho⟩
  have HR34 := hide ((unhide HR33).call ho)
  clear ho c22 HR33
  obtain ⟨bo1, bn1, bc1, z0, z1, z2, z3⟩ := (unhide HR34).fx.c0
  have hd : ((bn1 : Int) == 0) = zz := by rw [unhide HZ, Bool.eq_iff_iff, ← z1]; simp
  clear HZ
  clear z1
  go_wp2_with fail
  clear z0 z2 z3 hd
  refine (unhide c23 _ (unhide HR34).fx).mono ?_
  rintro e w35 ⟨rfl, ho⟩
  have HR35 := hide ((unhide HR34).call ho)
  clear ho c23 HR34
  have kE := (unhide HR35).fx.c1
  have SZ := hide (show (Try.prog.info? 28).map (·.size) = some (#[.string v3, .string v5, .string v7, .string v9, .string v11, .int .u16 v15, .int .u32 v16, .int .u8 v17, .int .u16 v19, .int .u8 v20] : Array Value).size by kernel_rfl)
  by_cases he : s23.e = 0
  · have he' : (s23.e != 0) = false := by simpa using he
    have HR' := hide (show RR = (⟨v3, v5, v7, v9, v11, v15, v16, v17, v19, v20⟩, 0) by rw [unhide HRES, if_pos he])
    clear HRES he
    generalize s23.e = E at *
    go_wp2_with (first | (with_reducible show wpList Try.prog _ _ (Oper.mk _ (Op.load 28 _) _ _ _ none :: _) _ _; refine wpList_load_row rfl _ (.tmp 5) rfl (w.heap.size + 2) rfl _ #[.string v3, .string v5, .string v7, .string v9, .string v11, .int .u16 v15, .int .u32 v16, .int .u8 v17, .int .u16 v19, .int .u8 v20] (0, 0) _ (unhide HR35).loc Try.underlying28 rfl (unhide SZ) ?_) | (with_reducible show wpList Try.prog _ _ (Oper.mk _ (Op.store 28 _ _) _ _ _ none :: _) _ _; refine wpList_stG rfl _ (.tmp 2) (.tmp 85) rfl w.heap.size #[.string v3, .string v5, .string v7, .string v9, .string v11, .int .u16 v15, .int .u32 v16, .int .u8 v17, .int .u16 v19, .int .u8 v20] #[.string ⟨#[]⟩, .string ⟨#[]⟩, .string ⟨#[]⟩, .string ⟨#[]⟩, .string ⟨#[]⟩, .int .u16 0, .int .u32 0, .int .u8 0, .int .u16 0, .int .u8 0] (by simp [Act.eval, Act.put]) (by simp [Act.eval, Act.put]) (unhide HR35).res (unhide SZ) rfl (by simp [Value.oneCell']) ?_; intro wz hh hg hs))
    refine bodyPost_ret (results_row_tmp rfl _ _ w.heap.size _ rfl (run_loadVar_row _ w.heap.size _ _ _ _ _ hh Try.underlying28 rfl (by kernel_rfl))) rfl ?_
    rw [unhide HR']
    exact ⟨rfl, (unhide HR35).bel.trans (hg.below (by have := (unhide HR35).lt; omega))⟩
  · have he' : (s23.e != 0) = true := by simpa using he
    have HR' := hide (show RR = (co0, s23.e) by rw [unhide HRES, if_neg he])
    clear HRES he
    generalize s23.e = E at *
    have u0 := (unhide HR35).rcell (j := 0) (v := .string ⟨#[]⟩) rfl
    have uf0 := (unhide HR35).rfree 0
    have u1 := (unhide HR35).rcell (j := 1) (v := .string ⟨#[]⟩) rfl
    have uf1 := (unhide HR35).rfree 1
    have u2 := (unhide HR35).rcell (j := 2) (v := .string ⟨#[]⟩) rfl
    have uf2 := (unhide HR35).rfree 2
    have u3 := (unhide HR35).rcell (j := 3) (v := .string ⟨#[]⟩) rfl
    have uf3 := (unhide HR35).rfree 3
    have u4 := (unhide HR35).rcell (j := 4) (v := .string ⟨#[]⟩) rfl
    have uf4 := (unhide HR35).rfree 4
    have u5 := (unhide HR35).rcell (j := 5) (v := .int .u16 0) rfl
    have uf5 := (unhide HR35).rfree 5
    have u6 := (unhide HR35).rcell (j := 6) (v := .int .u32 0) rfl
    have uf6 := (unhide HR35).rfree 6
    have u7 := (unhide HR35).rcell (j := 7) (v := .int .u8 0) rfl
    have uf7 := (unhide HR35).rfree 7
    have u8 := (unhide HR35).rcell (j := 8) (v := .int .u16 0) rfl
    have uf8 := (unhide HR35).rfree 8
    have u9 := (unhide HR35).rcell (j := 9) (v := .int .u8 0) rfl
    have uf9 := (unhide HR35).rfree 9
    go_wp2_with fail
    go_region
    go_wp2_with fail
    refine bodyPost_ret (results_row_tmp rfl _ _ w.heap.size _ rfl (run_loadVar_row _ w.heap.size _ _ _ _ _ (row_sets (unhide HR35).res) Try.underlying28 rfl (by kernel_rfl))) rfl ?_
    rw [unhide HR']
    exact ⟨rfl, below_sets (unhide HR35).bel (Nat.le_refl _)⟩

end Go.Proofs.Ytgdjeooiimjjcaa
