/-
  What ReadChange returns. It writes nothing that was there. Conditions: the slice can be read; at most 2 to the 40 bytes.
-/
import Derived.Test.YtkijdkbkbelliaaGpPk
import Derived.BigQuiet
import Derived.BigRegion
import Derived.Deep.CutRange
import Derived.Deep.DeepCutAuto
namespace Go.Proofs.Ytkijdkbkbelliaa
open Go.RowKit
set_option linter.unusedVariables false
set_option linter.unusedSimpArgs false

set_option maxHeartbeats 4000000 in
set_option maxRecDepth 100000 in
theorem readChange_any (bo : Option Addr) (bn bc : Nat) (b : List Int) (c : Int) (w : World) (h : Bs w bo bn bc b) (hn : bn ≤ 1099511627776) :
    Calls Try.prog 52 #[.slice bo bn bc, .int .u32 c] w fun e w' => OutCu w (cuR b c) e w' := by
  have HR0 := hide (show Rw w 71 #[.string ⟨#[]⟩, .slice none 0 0, .string ⟨#[]⟩, .int .u16 0, .string ⟨#[]⟩, .slice none 0 0] #[.string ⟨#[]⟩, .slice none 0 0, .string ⟨#[]⟩, .int .u16 0, .string ⟨#[]⟩, .slice none 0 0] (((w.alloc (.cells #[.string ⟨#[]⟩, .slice none 0 0, .string ⟨#[]⟩, .int .u16 0, .string ⟨#[]⟩, .slice none 0 0] 71)).alloc (.cells #[.slice bo bn bc, .int .i64 0] 137)).alloc (.cells #[.string ⟨#[]⟩, .slice none 0 0, .string ⟨#[]⟩, .int .u16 0, .string ⟨#[]⟩, .slice none 0 0] 71)) ⟨b, 0⟩ from Rw.new h hn _)
  clear h
  have c1 := hide (fun wx (hx : Fx (w.heap.size + 1) wx ⟨b, 0⟩) => mark_fx (w.heap.size + 1) wx ⟨b, 0⟩ 17 hx)
  obtain ⟨s1, hs1⟩ : ∃ z, z = maS ⟨b, 0⟩ 17 := ⟨_, rfl⟩
  rw [← hs1] at c1
  have c2 := hide (fun wx (hx : Fx (w.heap.size + 1) wx s1) => want_fx (w.heap.size + 1) wx s1 (cor c) hx)
  obtain ⟨s2, hs2⟩ : ∃ z, z = waS s1 (cor c) := ⟨_, rfl⟩
  rw [← hs2] at c2
  have c3 := hide (fun wx (hx : Fx (w.heap.size + 1) wx s2) => ended_fx (w.heap.size + 1) wx s2 hx)
  obtain ⟨s3, hs3⟩ : ∃ z, z = enS s2 := ⟨_, rfl⟩
  rw [← hs3] at c3
  obtain ⟨v3, hv3⟩ : ∃ z, z = enA s2 := ⟨_, rfl⟩
  rw [← hv3] at c3
  have c4 := hide (fun wx (hx : Fx (w.heap.size + 1) wx s3) => short_fx (w.heap.size + 1) wx s3 hx)
  obtain ⟨s4, hs4⟩ : ∃ z, z = shS s3 := ⟨_, rfl⟩
  rw [← hs4] at c4
  obtain ⟨v4, hv4⟩ : ∃ z, z = shA s3 := ⟨_, rfl⟩
  rw [← hv4] at c4
  have c5 := hide (fun wx (hx : Fx (w.heap.size + 1) wx s4) => ended_fx (w.heap.size + 1) wx s4 hx)
  obtain ⟨s5, hs5⟩ : ∃ z, z = enS s4 := ⟨_, rfl⟩
  rw [← hs5] at c5
  obtain ⟨v5, hv5⟩ : ∃ z, z = enA s4 := ⟨_, rfl⟩
  rw [← hv5] at c5
  have c6 := hide (fun wx (hx : Fx (w.heap.size + 1) wx s5) => want_fx (w.heap.size + 1) wx s5 (mby c 8 v5) hx)
  obtain ⟨s6, hs6⟩ : ∃ z, z = waS s5 (mby c 8 v5) := ⟨_, rfl⟩
  rw [← hs6] at c6
  have c7 := hide (fun wx (hx : Fx (w.heap.size + 1) wx s6) => fixed_fx (w.heap.size + 1) wx s6 2 2 65536 rfl (by omega) (by omega) (by decide) hx)
  obtain ⟨s7, hs7⟩ : ∃ z, z = fxS s6 2 := ⟨_, rfl⟩
  rw [← hs7] at c7
  obtain ⟨v7, hv7⟩ : ∃ z, z = fxA s6 2 := ⟨_, rfl⟩
  rw [← hv7] at c7
  have c8 := hide (fun wx (hx : Fx (w.heap.size + 1) wx s7) => plugin_fx (w.heap.size + 1) wx s7 (c) hx)
  obtain ⟨s8, hs8⟩ : ∃ z, z = plS s7 (c) := ⟨_, rfl⟩
  rw [← hs8] at c8
  obtain ⟨v8, hv8⟩ : ∃ z, z = plA s7 (c) := ⟨_, rfl⟩
  rw [← hv8] at c8
  have c9 := hide (fun wx (hx : Fx (w.heap.size + 1) wx s8) => attrs_fx (w.heap.size + 1) wx s8 (c) hx)
  obtain ⟨s9, hs9⟩ : ∃ z, z = atS s8 (c) := ⟨_, rfl⟩
  rw [← hs9] at c9
  obtain ⟨v9, hv9⟩ : ∃ z, z = atA s8 (c) := ⟨_, rfl⟩
  rw [← hv9] at c9
  have c10 := hide (fun wx (hx : Fx (w.heap.size + 1) wx s9) => end_fx (w.heap.size + 1) wx s9 hx)
  obtain ⟨s10, hs10⟩ : ∃ z, z = edS s9 := ⟨_, rfl⟩
  rw [← hs10] at c10
  have HRES := hide (show cuR b c = if s10.e = 0 then (⟨v3, v4, v5, v7, v8, v9⟩, 0) else (⟨⟨#[]⟩, [], ⟨#[]⟩, 0, ⟨#[]⟩, []⟩, s10.e) by subst hs1 hs2 hs3 hv3 hs4 hv4 hs5 hv5 hs6 hs7 hv7 hs8 hv8 hs9 hv9 hs10; rfl)
  clear hs1 hs2 hs3 hv3 hs4 hv4 hs5 hv5 hs6 hs7 hv7 hs8 hv8 hs9 hv9 hs10
  generalize cuR b c = RR at *
  go_enter Try.func52, Try.ntmps52
  go_wp2_with fail
  refine (unhide c1 _ (unhide HR0).fx).mono ?_
  rintro e w1 ⟨rfl, ho⟩
  have HR1 := hide ((unhide HR0).call ho)
  clear ho c1 HR0
  go_wp2_with fail
  refine same_world (hasCore_any _ _) ?_
  go_wp2_with fail
  refine (unhide c2 _ (unhide HR1).fx).mono ?_
  rintro e w2 ⟨rfl, ho⟩
  have HR2 := hide ((unhide HR1).call ho)
  clear ho c2 HR1
  go_wp2_with fail
  refine (unhide c3 _ (unhide HR2).fx).mono ?_
  rintro e w3 ⟨rfl, ho⟩
  have HR3 := hide ((unhide HR2).call ho)
  clear ho c3 HR2
  have q4 := (unhide HR3).cell (j := 0) (v := .string ⟨#[]⟩) rfl
  have qf4 := (unhide HR3).free 0
  have HR4 := hide ((unhide HR3).store 0 (.string v3) (cs' := #[.string v3, .slice none 0 0, .string ⟨#[]⟩, .int .u16 0, .string ⟨#[]⟩, .slice none 0 0]) rfl)
  clear HR3
  go_wp2_with fail
  clear q4 qf4
  refine (unhide c4 _ (unhide HR4).fx).mono ?_
  rintro e w5 ⟨xo4, xn4, xc4, rfl, hm, ho⟩
  have HR5 := hide ((unhide HR4).call ho)
  have HM4_5 := hide (hm.bk.mono (B' := w.heap.size + 3) (unhide HR4).lt)
  clear ho c4 HR4 hm
  have q6 := (unhide HR5).cell (j := 1) (v := .slice none 0 0) rfl
  have qf6 := (unhide HR5).free 1
  have HR6 := hide ((unhide HR5).store 1 (.slice xo4 xn4 xc4) (cs' := #[.string v3, .slice xo4 xn4 xc4, .string ⟨#[]⟩, .int .u16 0, .string ⟨#[]⟩, .slice none 0 0]) rfl)
  have HM4_6 := hide ((unhide HM4_5).set (g := w.heap.size + 2) (by omega) 1 (.slice xo4 xn4 xc4))
  clear HR5 HM4_5
  go_wp2_with fail
  clear q6 qf6
  refine (unhide c5 _ (unhide HR6).fx).mono ?_
  rintro e w7 ⟨rfl, ho⟩
  have HR7 := hide ((unhide HR6).call ho)
  have HM4_7 := hide ((unhide HM4_6).gb (g := w.heap.size + 1) (by omega) ho.2)
  clear ho c5 HR6 HM4_6
  have q8 := (unhide HR7).cell (j := 2) (v := .string ⟨#[]⟩) rfl
  have qf8 := (unhide HR7).free 2
  have HR8 := hide ((unhide HR7).store 2 (.string v5) (cs' := #[.string v3, .slice xo4 xn4 xc4, .string v5, .int .u16 0, .string ⟨#[]⟩, .slice none 0 0]) rfl)
  have HM4_8 := hide ((unhide HM4_7).set (g := w.heap.size + 2) (by omega) 2 (.string v5))
  clear HR7 HM4_7
  have x8_2 := (unhide HR8).cell (j := 2) (v := .string v5) rfl
  go_wp2_with fail
  clear x8_2
  refine same_world (mayBeBy_any _ _ _ _) ?_
  go_wp2_with fail
  refine (unhide c6 _ (unhide HR8).fx).mono ?_
  rintro e w9 ⟨rfl, ho⟩
  have HR9 := hide ((unhide HR8).call ho)
  have HM4_9 := hide ((unhide HM4_8).gb (g := w.heap.size + 1) (by omega) ho.2)
  clear ho c6 HR8 HM4_8
  go_wp2_with fail
  refine (unhide c7 _ (unhide HR9).fx).mono ?_
  rintro e w10 ⟨⟨rfl, bl7, bh7⟩, ho⟩
  have HR10 := hide ((unhide HR9).call ho)
  have HM4_10 := hide ((unhide HM4_9).gb (g := w.heap.size + 1) (by omega) ho.2)
  clear ho c7 HR9 HM4_9
  have q11 := (unhide HR10).cell (j := 3) (v := .int .u16 0) rfl
  have qf11 := (unhide HR10).free 3
  have HR11 := hide ((unhide HR10).store 3 (.int .u16 v7) (cs' := #[.string v3, .slice xo4 xn4 xc4, .string v5, .int .u16 v7, .string ⟨#[]⟩, .slice none 0 0]) rfl)
  have HM4_11 := hide ((unhide HM4_10).set (g := w.heap.size + 2) (by omega) 3 (.int .u16 v7))
  clear HR10 HM4_10
  go_wp2_with fail
  clear q11 qf11
  refine (unhide c8 _ (unhide HR11).fx).mono ?_
  rintro e w12 ⟨rfl, ho⟩
  have HR12 := hide ((unhide HR11).call ho)
  have HM4_12 := hide ((unhide HM4_11).gb (g := w.heap.size + 1) (by omega) ho.2)
  clear ho c8 HR11 HM4_11
  have q13 := (unhide HR12).cell (j := 4) (v := .string ⟨#[]⟩) rfl
  have qf13 := (unhide HR12).free 4
  have HR13 := hide ((unhide HR12).store 4 (.string v8) (cs' := #[.string v3, .slice xo4 xn4 xc4, .string v5, .int .u16 v7, .string v8, .slice none 0 0]) rfl)
  have HM4_13 := hide ((unhide HM4_12).set (g := w.heap.size + 2) (by omega) 4 (.string v8))
  clear HR12 HM4_12
  go_wp2_with fail
  clear q13 qf13
  refine (unhide c9 _ (unhide HR13).fx).mono ?_
  rintro e w14 ⟨xo9, xn9, xc9, rfl, hm, ho⟩
  have HR14 := hide ((unhide HR13).call ho)
  have HM4_14 := hide ((unhide HM4_13).gb (g := w.heap.size + 1) (by omega) ho.2)
  have HA9_14 := hide (hm.ak.mono (B' := w.heap.size + 3) (unhide HR13).lt)
  clear ho c9 HR13 HM4_13 hm
  have q15 := (unhide HR14).cell (j := 5) (v := .slice none 0 0) rfl
  have qf15 := (unhide HR14).free 5
  have HR15 := hide ((unhide HR14).store 5 (.slice xo9 xn9 xc9) (cs' := #[.string v3, .slice xo4 xn4 xc4, .string v5, .int .u16 v7, .string v8, .slice xo9 xn9 xc9]) rfl)
  have HM4_15 := hide ((unhide HM4_14).set (g := w.heap.size + 2) (by omega) 5 (.slice xo9 xn9 xc9))
  have HA9_15 := hide ((unhide HA9_14).set (g := w.heap.size + 2) (by omega) 5 (.slice xo9 xn9 xc9))
  clear HR14 HM4_14 HA9_14
  go_wp2_with fail
  clear q15 qf15
  refine (unhide c10 _ (unhide HR15).fx).mono ?_
  rintro e w16 ⟨rfl, ho⟩
  have HR16 := hide ((unhide HR15).call ho)
  have HM4_16 := hide ((unhide HM4_15).gb (g := w.heap.size + 1) (by omega) ho.2)
  have HA9_16 := hide ((unhide HA9_15).gb (g := w.heap.size + 1) (by omega) ho.2)
  clear ho c10 HR15 HM4_15 HA9_15
  have k1 := (unhide HR16).fx.c1
  have t0 := (unhide HR16).cell (j := 0) (v := .string v3) rfl
  have t1 := (unhide HR16).cell (j := 1) (v := .slice xo4 xn4 xc4) rfl
  have t2 := (unhide HR16).cell (j := 2) (v := .string v5) rfl
  have t3 := (unhide HR16).cell (j := 3) (v := .int .u16 v7) rfl
  have t4 := (unhide HR16).cell (j := 4) (v := .string v8) rfl
  have t5 := (unhide HR16).cell (j := 5) (v := .slice xo9 xn9 xc9) rfl
  have u0 := (unhide HR16).rcell (j := 0) (v := .string ⟨#[]⟩) rfl
  have uf0 := (unhide HR16).rfree 0
  have u1 := (unhide HR16).rcell (j := 1) (v := .slice none 0 0) rfl
  have uf1 := (unhide HR16).rfree 1
  have u2 := (unhide HR16).rcell (j := 2) (v := .string ⟨#[]⟩) rfl
  have uf2 := (unhide HR16).rfree 2
  have u3 := (unhide HR16).rcell (j := 3) (v := .int .u16 0) rfl
  have uf3 := (unhide HR16).rfree 3
  have u4 := (unhide HR16).rcell (j := 4) (v := .string ⟨#[]⟩) rfl
  have uf4 := (unhide HR16).rfree 4
  have u5 := (unhide HR16).rcell (j := 5) (v := .slice none 0 0) rfl
  have uf5 := (unhide HR16).rfree 5
  by_cases he : s10.e = 0
  · have he' : (s10.e != 0) = false := by simpa using he
    have HR' := hide (show RR = (⟨v3, v4, v5, v7, v8, v9⟩, 0) by rw [unhide HRES, if_pos he])
    clear HRES he
    generalize s10.e = E at *
    go_wp2_with fail
    refine bodyPost_ret (results_row_tmp rfl _ _ w.heap.size _ rfl (run_loadVar_row _ w.heap.size _ _ _ _ _ (show _ = some (Obj.cells #[.string v3, .slice xo4 xn4 xc4, .string v5, .int .u16 v7, .string v8, .slice xo9 xn9 xc9] 71 (0, 0)) from (heap_setCell_same _ w.heap.size 5 _ _ _ (heap_setCell_same _ w.heap.size 4 _ _ _ (heap_setCell_same _ w.heap.size 3 _ _ _ (heap_setCell_same _ w.heap.size 2 _ _ _ (heap_setCell_same _ w.heap.size 1 _ _ _ (heap_setCell_same _ w.heap.size 0 _ _ _ (unhide HR16).res))))))) Try.underlying71 rfl (by kernel_rfl))) rfl ?_
    rw [unhide HR']
    exact ⟨_, _, _, _, _, _, rfl, (((((((unhide HM4_16).set (g := w.heap.size) (by omega) _ _).set (g := w.heap.size) (by omega) _ _).set (g := w.heap.size) (by omega) _ _).set (g := w.heap.size) (by omega) _ _).set (g := w.heap.size) (by omega) _ _).set (g := w.heap.size) (by omega) _ _).1, (((((((unhide HA9_16).set (g := w.heap.size) (by omega) _ _).set (g := w.heap.size) (by omega) _ _).set (g := w.heap.size) (by omega) _ _).set (g := w.heap.size) (by omega) _ _).set (g := w.heap.size) (by omega) _ _).set (g := w.heap.size) (by omega) _ _).1, (((((((unhide HR16).bel.setCell (Nat.le_refl _) _).setCell (Nat.le_refl _) _).setCell (Nat.le_refl _) _).setCell (Nat.le_refl _) _).setCell (Nat.le_refl _) _).setCell (Nat.le_refl _) _)⟩
  · have he' : (s10.e != 0) = true := by simpa using he
    have HR' := hide (show RR = (⟨⟨#[]⟩, [], ⟨#[]⟩, 0, ⟨#[]⟩, []⟩, s10.e) by rw [unhide HRES, if_neg he])
    clear HRES he
    generalize s10.e = E at *
    go_wp2_with fail
    go_region
    go_wp2_with fail
    refine bodyPost_ret (results_row_tmp rfl _ _ w.heap.size _ rfl (run_loadVar_row _ w.heap.size _ _ _ _ _ (show _ = some (Obj.cells #[.string ⟨#[]⟩, .slice none 0 0, .string ⟨#[]⟩, .int .u16 0, .string ⟨#[]⟩, .slice none 0 0] 71 (0, 0)) from (drew_row (heap_setCell_same _ w.heap.size 5 _ _ _ (heap_setCell_same _ w.heap.size 4 _ _ _ (heap_setCell_same _ w.heap.size 3 _ _ _ (heap_setCell_same _ w.heap.size 2 _ _ _ (heap_setCell_same _ w.heap.size 1 _ _ _ (heap_setCell_same _ w.heap.size 0 _ _ _ (unhide HR16).res)))))))) Try.underlying71 rfl (by kernel_rfl))) rfl ?_
    rw [unhide HR']
    exact ⟨none, 0, 0, none, 0, 0, rfl, Bs.nought _, As.nought _, (((((((unhide HR16).bel.setCell (Nat.le_refl _) _).setCell (Nat.le_refl _) _).setCell (Nat.le_refl _) _).setCell (Nat.le_refl _) _).setCell (Nat.le_refl _) _).setCell (Nat.le_refl _) _).drew⟩

end Go.Proofs.Ytkijdkbkbelliaa
