/-
  What ReadSwitch returns. It writes nothing that was there. Conditions: the slice can be read; at most 2 to the 40 bytes.
-/
import Derived.Test.YtkijdkbkbelliaaGpPk
import Derived.BigQuiet
import Derived.BigRegion
import Derived.Deep.CutRange
import Derived.Deep.DeepCutAuto
namespace Go.Proofs.Ytkijdkbkbelliaa
open Go.RowKit
set_option linter.unusedVariables false
set_option linter.unusedSimpArgs false

set_option maxHeartbeats 4000000 in
set_option maxRecDepth 100000 in
theorem readSwitch_any (bo : Option Addr) (bn bc : Nat) (b : List Int) (w : World) (h : Bs w bo bn bc b) (hn : bn ≤ 1099511627776) :
    Calls Try.prog 49 #[.slice bo bn bc] w fun e w' => OutSw w (swR b) e w' := by
  have HR0 := hide (show Rw w 69 #[.string ⟨#[]⟩, .slice none 0 0] #[.string ⟨#[]⟩, .slice none 0 0] (((w.alloc (.cells #[.string ⟨#[]⟩, .slice none 0 0] 69)).alloc (.cells #[.slice bo bn bc, .int .i64 0] 137)).alloc (.cells #[.string ⟨#[]⟩, .slice none 0 0] 69)) ⟨b, 0⟩ from Rw.new h hn _)
  clear h
  have c1 := hide (fun wx (hx : Fx (w.heap.size + 1) wx ⟨b, 0⟩) => mark_fx (w.heap.size + 1) wx ⟨b, 0⟩ 254 hx)
  obtain ⟨s1, hs1⟩ : ∃ z, z = maS ⟨b, 0⟩ 254 := ⟨_, rfl⟩
  rw [← hs1] at c1
  have c2 := hide (fun wx (hx : Fx (w.heap.size + 1) wx s1) => ended_fx (w.heap.size + 1) wx s1 hx)
  obtain ⟨s2, hs2⟩ : ∃ z, z = enS s1 := ⟨_, rfl⟩
  rw [← hs2] at c2
  obtain ⟨v2, hv2⟩ : ∃ z, z = enA s1 := ⟨_, rfl⟩
  rw [← hv2] at c2
  have c3 := hide (fun wx (hx : Fx (w.heap.size + 1) wx s2) => nonce_fx (w.heap.size + 1) wx s2 20 20 rfl (by omega) hx)
  obtain ⟨s3, hs3⟩ : ∃ z, z = noS s2 20 := ⟨_, rfl⟩
  rw [← hs3] at c3
  obtain ⟨v3, hv3⟩ : ∃ z, z = tkA s2 20 := ⟨_, rfl⟩
  rw [← hv3] at c3
  have c4 := hide (fun wx (hx : Fx (w.heap.size + 1) wx s3) => zeros_fx (w.heap.size + 1) wx s3 1 1 rfl (by omega) hx)
  obtain ⟨s4, hs4⟩ : ∃ z, z = zeS s3 1 := ⟨_, rfl⟩
  rw [← hs4] at c4
  have c5 := hide (fun wx (hx : Fx (w.heap.size + 1) wx s4) => end_fx (w.heap.size + 1) wx s4 hx)
  obtain ⟨s5, hs5⟩ : ∃ z, z = edS s4 := ⟨_, rfl⟩
  rw [← hs5] at c5
  have HRES := hide (show swR b = if s5.e = 0 then (⟨v2, v3⟩, 0) else (⟨⟨#[]⟩, []⟩, s5.e) by subst hs1 hs2 hv2 hs3 hv3 hs4 hs5; rfl)
  clear hs1 hs2 hv2 hs3 hv3 hs4 hs5
  generalize swR b = RR at *
  go_enter Try.func49, Try.ntmps49
  go_wp2_with fail
  refine (unhide c1 _ (unhide HR0).fx).mono ?_
  rintro e w1 ⟨rfl, ho⟩
  have HR1 := hide ((unhide HR0).call ho)
  clear ho c1 HR0
  go_wp2_with fail
  refine (unhide c2 _ (unhide HR1).fx).mono ?_
  rintro e w2 ⟨rfl, ho⟩
  have HR2 := hide ((unhide HR1).call ho)
  clear ho c2 HR1
  have q3 := (unhide HR2).cell (j := 0) (v := .string ⟨#[]⟩) rfl
  have qf3 := (unhide HR2).free 0
  have HR3 := hide ((unhide HR2).store 0 (.string v2) (cs' := #[.string v2, .slice none 0 0]) rfl)
  clear HR2
  go_wp2_with fail
  clear q3 qf3
  refine (unhide c3 _ (unhide HR3).fx).mono ?_
  rintro e w4 ⟨xo3, xn3, xc3, rfl, hm, ho⟩
  have HR4 := hide ((unhide HR3).call ho)
  have HM3_4 := hide (hm.bk.mono (B' := w.heap.size + 3) (unhide HR3).lt)
  clear ho c3 HR3 hm
  have q5 := (unhide HR4).cell (j := 1) (v := .slice none 0 0) rfl
  have qf5 := (unhide HR4).free 1
  have HR5 := hide ((unhide HR4).store 1 (.slice xo3 xn3 xc3) (cs' := #[.string v2, .slice xo3 xn3 xc3]) rfl)
  have HM3_5 := hide ((unhide HM3_4).set (g := w.heap.size + 2) (by omega) 1 (.slice xo3 xn3 xc3))
  clear HR4 HM3_4
  go_wp2_with fail
  clear q5 qf5
  refine (unhide c4 _ (unhide HR5).fx).mono ?_
  rintro e w6 ⟨rfl, ho⟩
  have HR6 := hide ((unhide HR5).call ho)
  have HM3_6 := hide ((unhide HM3_5).gb (g := w.heap.size + 1) (by omega) ho.2)
  clear ho c4 HR5 HM3_5
  go_wp2_with fail
  refine (unhide c5 _ (unhide HR6).fx).mono ?_
  rintro e w7 ⟨rfl, ho⟩
  have HR7 := hide ((unhide HR6).call ho)
  have HM3_7 := hide ((unhide HM3_6).gb (g := w.heap.size + 1) (by omega) ho.2)
  clear ho c5 HR6 HM3_6
  have k1 := (unhide HR7).fx.c1
  have t0 := (unhide HR7).cell (j := 0) (v := .string v2) rfl
  have t1 := (unhide HR7).cell (j := 1) (v := .slice xo3 xn3 xc3) rfl
  have u0 := (unhide HR7).rcell (j := 0) (v := .string ⟨#[]⟩) rfl
  have uf0 := (unhide HR7).rfree 0
  have u1 := (unhide HR7).rcell (j := 1) (v := .slice none 0 0) rfl
  have uf1 := (unhide HR7).rfree 1
  by_cases he : s5.e = 0
  · have he' : (s5.e != 0) = false := by simpa using he
    have HR' := hide (show RR = (⟨v2, v3⟩, 0) by rw [unhide HRES, if_pos he])
    clear HRES he
    generalize s5.e = E at *
    go_wp2_with fail
    refine bodyPost_ret (results_row_tmp rfl _ _ w.heap.size _ rfl (run_loadVar_row _ w.heap.size _ _ _ _ _ (show _ = some (Obj.cells #[.string v2, .slice xo3 xn3 xc3] 69 (0, 0)) from (heap_setCell_same _ w.heap.size 1 _ _ _ (heap_setCell_same _ w.heap.size 0 _ _ _ (unhide HR7).res))) Try.underlying69 rfl (by kernel_rfl))) rfl ?_
    rw [unhide HR']
    exact ⟨_, _, _, rfl, (((unhide HM3_7).set (g := w.heap.size) (by omega) _ _).set (g := w.heap.size) (by omega) _ _).1, (((unhide HR7).bel.setCell (Nat.le_refl _) _).setCell (Nat.le_refl _) _)⟩
  · have he' : (s5.e != 0) = true := by simpa using he
    have HR' := hide (show RR = (⟨⟨#[]⟩, []⟩, s5.e) by rw [unhide HRES, if_neg he])
    clear HRES he
    generalize s5.e = E at *
    go_wp2_with fail
    go_region
    go_wp2_with fail
    refine bodyPost_ret (results_row_tmp rfl _ _ w.heap.size _ rfl (run_loadVar_row _ w.heap.size _ _ _ _ _ (show _ = some (Obj.cells #[.string ⟨#[]⟩, .slice none 0 0] 69 (0, 0)) from (drew_row (heap_setCell_same _ w.heap.size 1 _ _ _ (heap_setCell_same _ w.heap.size 0 _ _ _ (unhide HR7).res)))) Try.underlying69 rfl (by kernel_rfl))) rfl ?_
    rw [unhide HR']
    exact ⟨none, 0, 0, rfl, Bs.nought _, (((unhide HR7).bel.setCell (Nat.le_refl _) _).setCell (Nat.le_refl _) _).drew⟩

end Go.Proofs.Ytkijdkbkbelliaa
