/-
  What ReadAnswer returns. It writes nothing that was there. Conditions: the slice can be read; at most 2 to the 40 bytes.
-/
import Derived.Test.YtkijdkbkbelliaaGpPk
import Derived.BigQuiet
import Derived.BigRegion
import Derived.Deep.CutRange
import Derived.Deep.DeepCutAuto
namespace Go.Proofs.Ytkijdkbkbelliaa
open Go.RowKit
set_option linter.unusedVariables false
set_option linter.unusedSimpArgs false

set_option maxHeartbeats 4000000 in
set_option maxRecDepth 100000 in
theorem readAnswer_any (bo : Option Addr) (bn bc : Nat) (b : List Int) (w : World) (h : Bs w bo bn bc b) (hn : bn ≤ 1099511627776) :
    Calls Try.prog 46 #[.slice bo bn bc] w fun e w' => OutAn w (anR b) e w' := by
  have HR0 := hide (show Rw w 67 #[.int .u32 0, .int .u32 0, .int .u8 0, .string ⟨#[]⟩, .slice none 0 0, .string ⟨#[]⟩, .string ⟨#[]⟩, .slice none 0 0] #[.int .u32 0, .int .u32 0, .int .u8 0, .string ⟨#[]⟩, .slice none 0 0, .string ⟨#[]⟩, .string ⟨#[]⟩, .slice none 0 0] (((w.alloc (.cells #[.int .u32 0, .int .u32 0, .int .u8 0, .string ⟨#[]⟩, .slice none 0 0, .string ⟨#[]⟩, .string ⟨#[]⟩, .slice none 0 0] 67)).alloc (.cells #[.slice bo bn bc, .int .i64 0] 137)).alloc (.cells #[.int .u32 0, .int .u32 0, .int .u8 0, .string ⟨#[]⟩, .slice none 0 0, .string ⟨#[]⟩, .string ⟨#[]⟩, .slice none 0 0] 67)) ⟨b, 0⟩ from Rw.new h hn _)
  clear h
  have c1 := hide (fun wx (hx : Fx (w.heap.size + 1) wx ⟨b, 0⟩) => fixed_fx (w.heap.size + 1) wx ⟨b, 0⟩ 4 4 4294967296 rfl (by omega) (by omega) (by decide) hx)
  obtain ⟨s1, hs1⟩ : ∃ z, z = fxS ⟨b, 0⟩ 4 := ⟨_, rfl⟩
  rw [← hs1] at c1
  obtain ⟨v1, hv1⟩ : ∃ z, z = fxA ⟨b, 0⟩ 4 := ⟨_, rfl⟩
  rw [← hv1] at c1
  have c2 := hide (fun wx (hx : Fx (w.heap.size + 1) wx s1) => want_fx (w.heap.size + 1) wx s1 (cor v1) hx)
  obtain ⟨s2, hs2⟩ : ∃ z, z = waS s1 (cor v1) := ⟨_, rfl⟩
  rw [← hs2] at c2
  have c3 := hide (fun wx (hx : Fx (w.heap.size + 1) wx s2) => fixed_fx (w.heap.size + 1) wx s2 4 4 4294967296 rfl (by omega) (by omega) (by decide) hx)
  obtain ⟨s3, hs3⟩ : ∃ z, z = fxS s2 4 := ⟨_, rfl⟩
  rw [← hs3] at c3
  obtain ⟨v3, hv3⟩ : ∃ z, z = fxA s2 4 := ⟨_, rfl⟩
  rw [← hv3] at c3
  have c4 := hide (fun wx (hx : Fx (w.heap.size + 1) wx s3) => fixed_fx (w.heap.size + 1) wx s3 1 1 256 rfl (by omega) (by omega) (by decide) hx)
  obtain ⟨s4, hs4⟩ : ∃ z, z = fxS s3 1 := ⟨_, rfl⟩
  rw [← hs4] at c4
  obtain ⟨v4, hv4⟩ : ∃ z, z = fxA s3 1 := ⟨_, rfl⟩
  rw [← hv4] at c4
  have c5 := hide (fun wx (hx : Fx (w.heap.size + 1) wx s4) => zeros_fx (w.heap.size + 1) wx s4 23 23 rfl (by omega) hx)
  obtain ⟨s5, hs5⟩ : ∃ z, z = zeS s4 23 := ⟨_, rfl⟩
  rw [← hs5] at c5
  have c6 := hide (fun wx (hx : Fx (w.heap.size + 1) wx s5) => ended_fx (w.heap.size + 1) wx s5 hx)
  obtain ⟨s6, hs6⟩ : ∃ z, z = enS s5 := ⟨_, rfl⟩
  rw [← hs6] at c6
  obtain ⟨v6, hv6⟩ : ∃ z, z = enA s5 := ⟨_, rfl⟩
  rw [← hv6] at c6
  have cT := hide (fun wx (hx : Fx (w.heap.size + 1) wx s6) => text_fx (w.heap.size + 1) wx s6 hx)
  have cV := hide (fun wx (hx : Fx (w.heap.size + 1) wx (txS s6)) => want_fx (w.heap.size + 1) wx (txS s6) (decide ((txA s6).size ≤ 255)) hx)
  have cS := hide (fun wx (hx : Fx (w.heap.size + 1) wx s6) => short_fx (w.heap.size + 1) wx s6 hx)
  obtain ⟨sR, hsR⟩ : ∃ z, z = rsS s6 v1 := ⟨_, rfl⟩
  obtain ⟨vR, hvR⟩ : ∃ z, z = rsA s6 v1 := ⟨_, rfl⟩
  have E7t := hide (fun q : has v1 2097152 = true => And.intro (show sR = waS (txS s6) (decide ((txA s6).size ≤ 255)) by rw [hsR]; unfold rsS; rw [if_pos q]) (show vR = nums (txA s6) by rw [hvR]; unfold rsA; rw [if_pos q]))
  have E7f := hide (fun q : ¬ has v1 2097152 = true => And.intro (show sR = shS s6 by rw [hsR]; unfold rsS; rw [if_neg q]) (show vR = shA s6 by rw [hvR]; unfold rsA; rw [if_neg q]))
  have cE := hide (fun wx (hx : Fx (w.heap.size + 1) wx sR) => ended_fx (w.heap.size + 1) wx sR hx)
  obtain ⟨sC, hsC⟩ : ∃ z, z = scS sR v1 := ⟨_, rfl⟩
  obtain ⟨vC, hvC⟩ : ∃ z, z = scA sR v1 := ⟨_, rfl⟩
  have E8t := hide (fun q : has v1 8 = true => And.intro (show sC = enS sR by rw [hsC]; unfold scS; rw [if_pos q]) (show vC = enA sR by rw [hvC]; unfold scA; rw [if_pos q]))
  have E8f := hide (fun q : ¬ has v1 8 = true => And.intro (show sC = sR by rw [hsC]; unfold scS; rw [if_neg q]) (show vC = ⟨#[]⟩ by rw [hvC]; unfold scA; rw [if_neg q]))
  have c7 := hide (fun wx (hx : Fx (w.heap.size + 1) wx sC) => plugin_fx (w.heap.size + 1) wx sC (v1) hx)
  obtain ⟨s7, hs7⟩ : ∃ z, z = plS sC (v1) := ⟨_, rfl⟩
  rw [← hs7] at c7
  obtain ⟨v7, hv7⟩ : ∃ z, z = plA sC (v1) := ⟨_, rfl⟩
  rw [← hv7] at c7
  have c8 := hide (fun wx (hx : Fx (w.heap.size + 1) wx s7) => attrs_fx (w.heap.size + 1) wx s7 (v1) hx)
  obtain ⟨s8, hs8⟩ : ∃ z, z = atS s7 (v1) := ⟨_, rfl⟩
  rw [← hs8] at c8
  obtain ⟨v8, hv8⟩ : ∃ z, z = atA s7 (v1) := ⟨_, rfl⟩
  rw [← hv8] at c8
  have c9 := hide (fun wx (hx : Fx (w.heap.size + 1) wx s8) => end_fx (w.heap.size + 1) wx s8 hx)
  obtain ⟨s9, hs9⟩ : ∃ z, z = edS s8 := ⟨_, rfl⟩
  rw [← hs9] at c9
  have HRES := hide (show anR b = if s9.e = 0 then (⟨v1, v3, v4, v6, vR, vC, v7, v8⟩, 0) else (⟨0, 0, 0, ⟨#[]⟩, [], ⟨#[]⟩, ⟨#[]⟩, []⟩, s9.e) by subst hs1 hv1 hs2 hs3 hv3 hs4 hv4 hs5 hs6 hv6 hsR hvR hsC hvC hs7 hv7 hs8 hv8 hs9; rfl)
  clear hs1 hv1 hs2 hs3 hv3 hs4 hv4 hs5 hs6 hv6 hsR hvR hsC hvC hs7 hv7 hs8 hv8 hs9
  generalize anR b = RR at *
  go_enter Try.func46, Try.ntmps46
  go_wp2_with fail
  refine (unhide c1 _ (unhide HR0).fx).mono ?_
  rintro e w1 ⟨⟨rfl, bl1, bh1⟩, ho⟩
  have HR1 := hide ((unhide HR0).call ho)
  clear ho c1 HR0
  have q2 := (unhide HR1).cell (j := 0) (v := .int .u32 0) rfl
  have qf2 := (unhide HR1).free 0
  have HR2 := hide ((unhide HR1).store 0 (.int .u32 v1) (cs' := #[.int .u32 v1, .int .u32 0, .int .u8 0, .string ⟨#[]⟩, .slice none 0 0, .string ⟨#[]⟩, .string ⟨#[]⟩, .slice none 0 0]) rfl)
  clear HR1
  have x2_0 := (unhide HR2).cell (j := 0) (v := .int .u32 v1) rfl
  go_wp2_with fail
  clear q2 qf2 x2_0
  refine same_world (hasCore_any _ _) ?_
  go_wp2_with fail
  refine (unhide c2 _ (unhide HR2).fx).mono ?_
  rintro e w3 ⟨rfl, ho⟩
  have HR3 := hide ((unhide HR2).call ho)
  clear ho c2 HR2
  go_wp2_with fail
  refine (unhide c3 _ (unhide HR3).fx).mono ?_
  rintro e w4 ⟨⟨rfl, bl3, bh3⟩, ho⟩
  have HR4 := hide ((unhide HR3).call ho)
  clear ho c3 HR3
  have q5 := (unhide HR4).cell (j := 1) (v := .int .u32 0) rfl
  have qf5 := (unhide HR4).free 1
  have HR5 := hide ((unhide HR4).store 1 (.int .u32 v3) (cs' := #[.int .u32 v1, .int .u32 v3, .int .u8 0, .string ⟨#[]⟩, .slice none 0 0, .string ⟨#[]⟩, .string ⟨#[]⟩, .slice none 0 0]) rfl)
  clear HR4
  go_wp2_with fail
  clear q5 qf5
  refine (unhide c4 _ (unhide HR5).fx).mono ?_
  rintro e w6 ⟨⟨rfl, bl4, bh4⟩, ho⟩
  have HR6 := hide ((unhide HR5).call ho)
  clear ho c4 HR5
  have q7 := (unhide HR6).cell (j := 2) (v := .int .u8 0) rfl
  have qf7 := (unhide HR6).free 2
  have HR7 := hide ((unhide HR6).store 2 (.int .u8 v4) (cs' := #[.int .u32 v1, .int .u32 v3, .int .u8 v4, .string ⟨#[]⟩, .slice none 0 0, .string ⟨#[]⟩, .string ⟨#[]⟩, .slice none 0 0]) rfl)
  clear HR6
  go_wp2_with fail
  clear q7 qf7
  refine (unhide c5 _ (unhide HR7).fx).mono ?_
  rintro e w8 ⟨rfl, ho⟩
  have HR8 := hide ((unhide HR7).call ho)
  clear ho c5 HR7
  go_wp2_with fail
  refine (unhide c6 _ (unhide HR8).fx).mono ?_
  rintro e w9 ⟨rfl, ho⟩
  have HR9 := hide ((unhide HR8).call ho)
  clear ho c6 HR8
  have q10 := (unhide HR9).cell (j := 3) (v := .string ⟨#[]⟩) rfl
  have qf10 := (unhide HR9).free 3
  have HR10 := hide ((unhide HR9).store 3 (.string v6) (cs' := #[.int .u32 v1, .int .u32 v3, .int .u8 v4, .string v6, .slice none 0 0, .string ⟨#[]⟩, .string ⟨#[]⟩, .slice none 0 0]) rfl)
  clear HR9
  have x10_0 := (unhide HR10).cell (j := 0) (v := .int .u32 v1) rfl
  go_upto_if 34 with fail
  clear q10 qf10 x10_0
  go_cut [] (fun wx => ∃ xo xn xc, Rw w 67 #[.int .u32 0, .int .u32 0, .int .u8 0, .string ⟨#[]⟩, .slice none 0 0, .string ⟨#[]⟩, .string ⟨#[]⟩, .slice none 0 0] #[.int .u32 v1, .int .u32 v3, .int .u8 v4, .string v6, .slice xo xn xc, .string ⟨#[]⟩, .string ⟨#[]⟩, .slice none 0 0] wx sR ∧ Bk (w.heap.size + 3) wx xo xn xc vR)
  case first =>
    by_cases q : has v1 2097152 = true
    · have q1 : (bits .and .u32 v1 2097152 != 0) = true := by unfold has at q; rw [bne]; exact q
      have EE := unhide E7t q
      clear E7t E7f q cS
      go_wp2_with fail
      refine (unhide cT _ (unhide HR10).fx).mono ?_
      rintro e wT ⟨⟨rfl, tl⟩, ho⟩
      generalize txS s6 = sT at *
      generalize txA s6 = vT at *
      have HRT := hide ((unhide HR10).call ho)
      obtain ⟨wB, hwB⟩ : ∃ z, z = Lib.bytesWorld wT 5 vT := ⟨_, rfl⟩
      obtain ⟨cB, hcB⟩ : ∃ z, z = grownCap wT vT.size 0 5 := ⟨_, rfl⟩
      have hbB := below_bytesWorld wT 5 vT
      have hkB := bk_bytes wT vT tl
      have hconv : (convert 9 22 (.string vT)).run Try.prog wT = .ok (.slice (some ⟨wT.heap.size, 0, none⟩) vT.size cB) wB := by rw [hwB, hcB]; exact run_toBytes vT wT
      rw [← hwB] at hbB hkB
      rw [← hcB] at hkB
      have HRB := hide ((unhide HRT).later hbB)
      have q4 := (unhide HRB).cell (j := 4) (v := .slice none 0 0) rfl
      have qf4 := (unhide HRB).free 4
      have HRC := hide ((unhide HRB).store 4 (.slice (some ⟨wT.heap.size, 0, none⟩) vT.size cB) (cs' := #[.int .u32 v1, .int .u32 v3, .int .u8 v4, .string v6, .slice (some ⟨wT.heap.size, 0, none⟩) vT.size cB, .string ⟨#[]⟩, .string ⟨#[]⟩, .slice none 0 0]) rfl)
      have HMC := hide ((hkB.mono (B' := w.heap.size + 3) (unhide HRT).lt).set (g := w.heap.size + 2) (by omega) 4 (.slice (some ⟨wT.heap.size, 0, none⟩) vT.size cB))
      have x4 := (unhide HRC).cell (j := 4) (v := .slice (some ⟨wT.heap.size, 0, none⟩) vT.size cB) rfl
      obtain ⟨zz, hz⟩ : ∃ z, decide ((vT.size : Int) ≤ 255) = z := ⟨_, rfl⟩
      have hzn : decide (vT.size ≤ 255) = zz := by rw [← hz, decide_eq_decide]; omega
      rw [hzn] at cV EE
      have HEE := hide EE
      clear hwB hcB hbB hkB HRT HRB ho cT EE
      go_wp2_with fail
      refine (unhide cV _ (unhide HRC).fx).mono ?_
      rintro e wW ⟨rfl, ho⟩
      have HRW := hide ((unhide HRC).call ho)
      have HMW := hide ((unhide HMC).gb (g := w.heap.size + 1) (by omega) ho.2)
      clear ho HRC HMC
      go_wp2_with fail
      go_meet
      rw [(unhide HEE).1, (unhide HEE).2]
      exact ⟨_, _, _, unhide HRW, unhide HMW⟩
    · have q1 : (bits .and .u32 v1 2097152 != 0) = false := by unfold has at q; rw [bne]; simpa using q
      have EE := unhide E7f q
      clear E7t E7f q cT cV
      go_wp2_with fail
      refine (unhide cS _ (unhide HR10).fx).mono ?_
      rintro e wT ⟨xo, xn, xc, rfl, hm, ho⟩
      have HRT := hide ((unhide HR10).call ho)
      have q4 := (unhide HRT).cell (j := 4) (v := .slice none 0 0) rfl
      have qf4 := (unhide HRT).free 4
      have HRC := hide ((unhide HRT).store 4 (.slice xo xn xc) (cs' := #[.int .u32 v1, .int .u32 v3, .int .u8 v4, .string v6, .slice xo xn xc, .string ⟨#[]⟩, .string ⟨#[]⟩, .slice none 0 0]) rfl)
      have HMC := hide ((hm.bk.mono (B' := w.heap.size + 3) (unhide HR10).lt).set (g := w.heap.size + 2) (by omega) 4 (.slice xo xn xc))
      have HEE := hide EE
      clear HRT hm ho cS EE
      go_wp2_with fail
      go_meet
      rw [(unhide HEE).1, (unhide HEE).2]
      exact ⟨_, _, _, unhide HRC, unhide HMC⟩
  obtain ⟨xo70, xn70, xc70, hr, hm⟩ := hcut
  have HR11 := hide hr
  have HM70_11 := hide hm
  clear hr hm HR10 E7t E7f cT cV cS
  have x11_0 := (unhide HR11).cell (j := 0) (v := .int .u32 v1) rfl
  go_upto_if 51 with fail
  clear x11_0
  go_cut [] (fun wx => Rw w 67 #[.int .u32 0, .int .u32 0, .int .u8 0, .string ⟨#[]⟩, .slice none 0 0, .string ⟨#[]⟩, .string ⟨#[]⟩, .slice none 0 0] #[.int .u32 v1, .int .u32 v3, .int .u8 v4, .string v6, .slice xo70 xn70 xc70, .string vC, .string ⟨#[]⟩, .slice none 0 0] wx sC ∧ Bk (w.heap.size + 3) wx xo70 xn70 xc70 vR)
  case first =>
    by_cases q : has v1 8 = true
    · have q1 : (bits .and .u32 v1 8 != 0) = true := by unfold has at q; rw [bne]; exact q
      have EE := unhide E8t q
      clear E8t E8f q
      go_wp2_with fail
      refine (unhide cE _ (unhide HR11).fx).mono ?_
      rintro e wT ⟨rfl, ho⟩
      rw [← EE.1] at ho
      rw [← EE.2]
      have HRT := hide ((unhide HR11).call ho)
      have q4 := (unhide HRT).cell (j := 5) (v := .string ⟨#[]⟩) rfl
      have qf4 := (unhide HRT).free 5
      have HRC := hide ((unhide HRT).store 5 (.string vC) (cs' := #[.int .u32 v1, .int .u32 v3, .int .u8 v4, .string v6, .slice xo70 xn70 xc70, .string vC, .string ⟨#[]⟩, .slice none 0 0]) rfl)
      have HMC := hide (((unhide HM70_11).gb (g := w.heap.size + 1) (by omega) ho.2).set (g := w.heap.size + 2) (by omega) 5 (.string vC))
      clear HRT ho cE EE
      go_wp2_with fail
      go_meet
      exact ⟨unhide HRC, unhide HMC⟩
    · have q1 : (bits .and .u32 v1 8 != 0) = false := by unfold has at q; rw [bne]; simpa using q
      have HEE := hide (unhide E8f q)
      clear E8t E8f q cE
      go_wp2_with fail
      go_meet
      rw [(unhide HEE).1, (unhide HEE).2]
      exact ⟨unhide HR11, unhide HM70_11⟩
  obtain ⟨hr, hm⟩ := hcut
  have HR12 := hide hr
  have HM70_12 := hide hm
  clear hr hm HR11 HM70_11 E8t E8f cE
  have x12_0 := (unhide HR12).cell (j := 0) (v := .int .u32 v1) rfl
  go_wp2_with fail
  clear x12_0
  refine (unhide c7 _ (unhide HR12).fx).mono ?_
  rintro e w13 ⟨rfl, ho⟩
  have HR13 := hide ((unhide HR12).call ho)
  have HM70_13 := hide ((unhide HM70_12).gb (g := w.heap.size + 1) (by omega) ho.2)
  clear ho c7 HR12 HM70_12
  have q14 := (unhide HR13).cell (j := 6) (v := .string ⟨#[]⟩) rfl
  have qf14 := (unhide HR13).free 6
  have HR14 := hide ((unhide HR13).store 6 (.string v7) (cs' := #[.int .u32 v1, .int .u32 v3, .int .u8 v4, .string v6, .slice xo70 xn70 xc70, .string vC, .string v7, .slice none 0 0]) rfl)
  have HM70_14 := hide ((unhide HM70_13).set (g := w.heap.size + 2) (by omega) 6 (.string v7))
  clear HR13 HM70_13
  have x14_0 := (unhide HR14).cell (j := 0) (v := .int .u32 v1) rfl
  go_wp2_with fail
  clear q14 qf14 x14_0
  refine (unhide c8 _ (unhide HR14).fx).mono ?_
  rintro e w15 ⟨xo8, xn8, xc8, rfl, hm, ho⟩
  have HR15 := hide ((unhide HR14).call ho)
  have HM70_15 := hide ((unhide HM70_14).gb (g := w.heap.size + 1) (by omega) ho.2)
  have HA8_15 := hide (hm.ak.mono (B' := w.heap.size + 3) (unhide HR14).lt)
  clear ho c8 HR14 HM70_14 hm
  have q16 := (unhide HR15).cell (j := 7) (v := .slice none 0 0) rfl
  have qf16 := (unhide HR15).free 7
  have HR16 := hide ((unhide HR15).store 7 (.slice xo8 xn8 xc8) (cs' := #[.int .u32 v1, .int .u32 v3, .int .u8 v4, .string v6, .slice xo70 xn70 xc70, .string vC, .string v7, .slice xo8 xn8 xc8]) rfl)
  have HM70_16 := hide ((unhide HM70_15).set (g := w.heap.size + 2) (by omega) 7 (.slice xo8 xn8 xc8))
  have HA8_16 := hide ((unhide HA8_15).set (g := w.heap.size + 2) (by omega) 7 (.slice xo8 xn8 xc8))
  clear HR15 HM70_15 HA8_15
  go_wp2_with fail
  clear q16 qf16
  refine (unhide c9 _ (unhide HR16).fx).mono ?_
  rintro e w17 ⟨rfl, ho⟩
  have HR17 := hide ((unhide HR16).call ho)
  have HM70_17 := hide ((unhide HM70_16).gb (g := w.heap.size + 1) (by omega) ho.2)
  have HA8_17 := hide ((unhide HA8_16).gb (g := w.heap.size + 1) (by omega) ho.2)
  clear ho c9 HR16 HM70_16 HA8_16
  have k1 := (unhide HR17).fx.c1
  have t0 := (unhide HR17).cell (j := 0) (v := .int .u32 v1) rfl
  have t1 := (unhide HR17).cell (j := 1) (v := .int .u32 v3) rfl
  have t2 := (unhide HR17).cell (j := 2) (v := .int .u8 v4) rfl
  have t3 := (unhide HR17).cell (j := 3) (v := .string v6) rfl
  have t4 := (unhide HR17).cell (j := 4) (v := .slice xo70 xn70 xc70) rfl
  have t5 := (unhide HR17).cell (j := 5) (v := .string vC) rfl
  have t6 := (unhide HR17).cell (j := 6) (v := .string v7) rfl
  have t7 := (unhide HR17).cell (j := 7) (v := .slice xo8 xn8 xc8) rfl
  have u0 := (unhide HR17).rcell (j := 0) (v := .int .u32 0) rfl
  have uf0 := (unhide HR17).rfree 0
  have u1 := (unhide HR17).rcell (j := 1) (v := .int .u32 0) rfl
  have uf1 := (unhide HR17).rfree 1
  have u2 := (unhide HR17).rcell (j := 2) (v := .int .u8 0) rfl
  have uf2 := (unhide HR17).rfree 2
  have u3 := (unhide HR17).rcell (j := 3) (v := .string ⟨#[]⟩) rfl
  have uf3 := (unhide HR17).rfree 3
  have u4 := (unhide HR17).rcell (j := 4) (v := .slice none 0 0) rfl
  have uf4 := (unhide HR17).rfree 4
  have u5 := (unhide HR17).rcell (j := 5) (v := .string ⟨#[]⟩) rfl
  have uf5 := (unhide HR17).rfree 5
  have u6 := (unhide HR17).rcell (j := 6) (v := .string ⟨#[]⟩) rfl
  have uf6 := (unhide HR17).rfree 6
  have u7 := (unhide HR17).rcell (j := 7) (v := .slice none 0 0) rfl
  have uf7 := (unhide HR17).rfree 7
  by_cases he : s9.e = 0
  · have he' : (s9.e != 0) = false := by simpa using he
    have HR' := hide (show RR = (⟨v1, v3, v4, v6, vR, vC, v7, v8⟩, 0) by rw [unhide HRES, if_pos he])
    clear HRES he
    generalize s9.e = E at *
    go_wp2_with fail
    refine bodyPost_ret (results_row_tmp rfl _ _ w.heap.size _ rfl (run_loadVar_row _ w.heap.size _ _ _ _ _ (show _ = some (Obj.cells #[.int .u32 v1, .int .u32 v3, .int .u8 v4, .string v6, .slice xo70 xn70 xc70, .string vC, .string v7, .slice xo8 xn8 xc8] 67 (0, 0)) from (heap_setCell_same _ w.heap.size 7 _ _ _ (heap_setCell_same _ w.heap.size 6 _ _ _ (heap_setCell_same _ w.heap.size 5 _ _ _ (heap_setCell_same _ w.heap.size 4 _ _ _ (heap_setCell_same _ w.heap.size 3 _ _ _ (heap_setCell_same _ w.heap.size 2 _ _ _ (heap_setCell_same _ w.heap.size 1 _ _ _ (heap_setCell_same _ w.heap.size 0 _ _ _ (unhide HR17).res))))))))) Try.underlying67 rfl (by kernel_rfl))) rfl ?_
    rw [unhide HR']
    exact ⟨_, _, _, _, _, _, rfl, (((((((((unhide HM70_17).set (g := w.heap.size) (by omega) _ _).set (g := w.heap.size) (by omega) _ _).set (g := w.heap.size) (by omega) _ _).set (g := w.heap.size) (by omega) _ _).set (g := w.heap.size) (by omega) _ _).set (g := w.heap.size) (by omega) _ _).set (g := w.heap.size) (by omega) _ _).set (g := w.heap.size) (by omega) _ _).1, (((((((((unhide HA8_17).set (g := w.heap.size) (by omega) _ _).set (g := w.heap.size) (by omega) _ _).set (g := w.heap.size) (by omega) _ _).set (g := w.heap.size) (by omega) _ _).set (g := w.heap.size) (by omega) _ _).set (g := w.heap.size) (by omega) _ _).set (g := w.heap.size) (by omega) _ _).set (g := w.heap.size) (by omega) _ _).1, (((((((((unhide HR17).bel.setCell (Nat.le_refl _) _).setCell (Nat.le_refl _) _).setCell (Nat.le_refl _) _).setCell (Nat.le_refl _) _).setCell (Nat.le_refl _) _).setCell (Nat.le_refl _) _).setCell (Nat.le_refl _) _).setCell (Nat.le_refl _) _)⟩
  · have he' : (s9.e != 0) = true := by simpa using he
    have HR' := hide (show RR = (⟨0, 0, 0, ⟨#[]⟩, [], ⟨#[]⟩, ⟨#[]⟩, []⟩, s9.e) by rw [unhide HRES, if_neg he])
    clear HRES he
    generalize s9.e = E at *
    go_wp2_with fail
    go_region
    go_wp2_with fail
    refine bodyPost_ret (results_row_tmp rfl _ _ w.heap.size _ rfl (run_loadVar_row _ w.heap.size _ _ _ _ _ (show _ = some (Obj.cells #[.int .u32 0, .int .u32 0, .int .u8 0, .string ⟨#[]⟩, .slice none 0 0, .string ⟨#[]⟩, .string ⟨#[]⟩, .slice none 0 0] 67 (0, 0)) from (drew_row (heap_setCell_same _ w.heap.size 7 _ _ _ (heap_setCell_same _ w.heap.size 6 _ _ _ (heap_setCell_same _ w.heap.size 5 _ _ _ (heap_setCell_same _ w.heap.size 4 _ _ _ (heap_setCell_same _ w.heap.size 3 _ _ _ (heap_setCell_same _ w.heap.size 2 _ _ _ (heap_setCell_same _ w.heap.size 1 _ _ _ (heap_setCell_same _ w.heap.size 0 _ _ _ (unhide HR17).res)))))))))) Try.underlying67 rfl (by kernel_rfl))) rfl ?_
    rw [unhide HR']
    exact ⟨none, 0, 0, none, 0, 0, rfl, Bs.nought _, As.nought _, (((((((((unhide HR17).bel.setCell (Nat.le_refl _) _).setCell (Nat.le_refl _) _).setCell (Nat.le_refl _) _).setCell (Nat.le_refl _) _).setCell (Nat.le_refl _) _).setCell (Nat.le_refl _) _).setCell (Nat.le_refl _) _).setCell (Nat.le_refl _) _).drew⟩

end Go.Proofs.Ytkijdkbkbelliaa
