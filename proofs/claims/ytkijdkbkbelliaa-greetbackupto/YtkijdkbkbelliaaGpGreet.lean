/-
  What ReadGreeting returns. It writes nothing that was there. Conditions: the slice can be read; at most 2 to the 40 bytes.
-/
import Derived.Test.YtkijdkbkbelliaaGpPk
import Derived.BigQuiet
import Derived.BigRegion
import Derived.Deep.CutRange
import Derived.Deep.DeepCutAuto
namespace Go.Proofs.Ytkijdkbkbelliaa
open Go.RowKit
set_option linter.unusedVariables false
set_option linter.unusedSimpArgs false

set_option maxHeartbeats 4000000 in
set_option maxRecDepth 100000 in
theorem readGreeting_any (bo : Option Addr) (bn bc : Nat) (b : List Int) (w : World) (h : Bs w bo bn bc b) (hn : bn ≤ 1099511627776) :
    Calls Try.prog 42 #[.slice bo bn bc] w fun e w' => OutGr w (grR b) e w' := by
  have HR0 := hide (show Rw w 64 #[.string ⟨#[]⟩, .int .u32 0, .slice none 0 0, .int .u32 0, .int .u8 0, .int .u16 0, .string ⟨#[]⟩] #[.string ⟨#[]⟩, .int .u32 0, .slice none 0 0, .int .u32 0, .int .u8 0, .int .u16 0, .string ⟨#[]⟩] (((w.alloc (.cells #[.string ⟨#[]⟩, .int .u32 0, .slice none 0 0, .int .u32 0, .int .u8 0, .int .u16 0, .string ⟨#[]⟩] 64)).alloc (.cells #[.slice bo bn bc, .int .i64 0] 137)).alloc (.cells #[.string ⟨#[]⟩, .int .u32 0, .slice none 0 0, .int .u32 0, .int .u8 0, .int .u16 0, .string ⟨#[]⟩] 64)) ⟨b, 0⟩ from Rw.new h hn _)
  clear h
  have c1 := hide (fun wx (hx : Fx (w.heap.size + 1) wx ⟨b, 0⟩) => mark_fx (w.heap.size + 1) wx ⟨b, 0⟩ 10 hx)
  obtain ⟨s1, hs1⟩ : ∃ z, z = maS ⟨b, 0⟩ 10 := ⟨_, rfl⟩
  rw [← hs1] at c1
  have c2 := hide (fun wx (hx : Fx (w.heap.size + 1) wx s1) => ended_fx (w.heap.size + 1) wx s1 hx)
  obtain ⟨s2, hs2⟩ : ∃ z, z = enS s1 := ⟨_, rfl⟩
  rw [← hs2] at c2
  obtain ⟨v2, hv2⟩ : ∃ z, z = enA s1 := ⟨_, rfl⟩
  rw [← hv2] at c2
  have c3 := hide (fun wx (hx : Fx (w.heap.size + 1) wx s2) => fixed_fx (w.heap.size + 1) wx s2 4 4 4294967296 rfl (by omega) (by omega) (by decide) hx)
  obtain ⟨s3, hs3⟩ : ∃ z, z = fxS s2 4 := ⟨_, rfl⟩
  rw [← hs3] at c3
  obtain ⟨v3, hv3⟩ : ∃ z, z = fxA s2 4 := ⟨_, rfl⟩
  rw [← hv3] at c3
  have c4 := hide (fun wx (hx : Fx (w.heap.size + 1) wx s3) => nonce_fx (w.heap.size + 1) wx s3 8 8 rfl (by omega) hx)
  obtain ⟨s4, hs4⟩ : ∃ z, z = noS s3 8 := ⟨_, rfl⟩
  rw [← hs4] at c4
  obtain ⟨v4, hv4⟩ : ∃ z, z = tkA s3 8 := ⟨_, rfl⟩
  rw [← hv4] at c4
  have c5 := hide (fun wx (hx : Fx (w.heap.size + 1) wx s4) => zeros_fx (w.heap.size + 1) wx s4 1 1 rfl (by omega) hx)
  obtain ⟨s5, hs5⟩ : ∃ z, z = zeS s4 1 := ⟨_, rfl⟩
  rw [← hs5] at c5
  have c6 := hide (fun wx (hx : Fx (w.heap.size + 1) wx s5) => fixed_fx (w.heap.size + 1) wx s5 2 2 65536 rfl (by omega) (by omega) (by decide) hx)
  obtain ⟨s6, hs6⟩ : ∃ z, z = fxS s5 2 := ⟨_, rfl⟩
  rw [← hs6] at c6
  obtain ⟨v6, hv6⟩ : ∃ z, z = fxA s5 2 := ⟨_, rfl⟩
  rw [← hv6] at c6
  have c7 := hide (fun wx (hx : Fx (w.heap.size + 1) wx s6) => want_fx (w.heap.size + 1) wx s6 (cor v6) hx)
  obtain ⟨s7, hs7⟩ : ∃ z, z = waS s6 (cor v6) := ⟨_, rfl⟩
  rw [← hs7] at c7
  have c8 := hide (fun wx (hx : Fx (w.heap.size + 1) wx s7) => fixed_fx (w.heap.size + 1) wx s7 1 1 256 rfl (by omega) (by omega) (by decide) hx)
  obtain ⟨s8, hs8⟩ : ∃ z, z = fxS s7 1 := ⟨_, rfl⟩
  rw [← hs8] at c8
  obtain ⟨v8, hv8⟩ : ∃ z, z = fxA s7 1 := ⟨_, rfl⟩
  rw [← hv8] at c8
  have c9 := hide (fun wx (hx : Fx (w.heap.size + 1) wx s8) => fixed_fx (w.heap.size + 1) wx s8 2 2 65536 rfl (by omega) (by omega) (by decide) hx)
  obtain ⟨s9, hs9⟩ : ∃ z, z = fxS s8 2 := ⟨_, rfl⟩
  rw [← hs9] at c9
  obtain ⟨v9, hv9⟩ : ∃ z, z = fxA s8 2 := ⟨_, rfl⟩
  rw [← hv9] at c9
  have c10 := hide (fun wx (hx : Fx (w.heap.size + 1) wx s9) => fixed_fx (w.heap.size + 1) wx s9 2 2 65536 rfl (by omega) (by omega) (by decide) hx)
  obtain ⟨s10, hs10⟩ : ∃ z, z = fxS s9 2 := ⟨_, rfl⟩
  rw [← hs10] at c10
  obtain ⟨v10, hv10⟩ : ∃ z, z = fxA s9 2 := ⟨_, rfl⟩
  rw [← hv10] at c10
  obtain ⟨cc, hcc⟩ : ∃ z, z = (bits .or .u32 v6 (v10 * 65536)) := ⟨_, rfl⟩
  have HCC := hide hcc
  have c11 := hide (fun wx (hx : Fx (w.heap.size + 1) wx s10) => fixed_fx (w.heap.size + 1) wx s10 1 1 256 rfl (by omega) (by omega) (by decide) hx)
  obtain ⟨s11, hs11⟩ : ∃ z, z = fxS s10 1 := ⟨_, rfl⟩
  rw [← hs11] at c11
  obtain ⟨v11, hv11⟩ : ∃ z, z = fxA s10 1 := ⟨_, rfl⟩
  rw [← hv11] at c11
  have c12 := hide (fun wx (hx : Fx (w.heap.size + 1) wx s11) => want_fx (w.heap.size + 1) wx s11 (v11 == nsz cc) hx)
  obtain ⟨s12, hs12⟩ : ∃ z, z = waS s11 (v11 == nsz cc) := ⟨_, rfl⟩
  rw [← hs12] at c12
  have c13 := hide (fun wx (hx : Fx (w.heap.size + 1) wx s12) => zeros_fx (w.heap.size + 1) wx s12 10 10 rfl (by omega) hx)
  obtain ⟨s13, hs13⟩ : ∃ z, z = zeS s12 10 := ⟨_, rfl⟩
  rw [← hs13] at c13
  have c14 := hide (fun wx (hx : Fx (w.heap.size + 1) wx s13) => nonce_fx (w.heap.size + 1) wx s13 12 12 rfl (by omega) hx)
  obtain ⟨s14, hs14⟩ : ∃ z, z = noS s13 12 := ⟨_, rfl⟩
  rw [← hs14] at c14
  obtain ⟨v14, hv14⟩ : ∃ z, z = tkA s13 12 := ⟨_, rfl⟩
  rw [← hv14] at c14
  have HL1 := hide (show v4.length ≤ 8 by rw [hv4]; exact tkA_len _ _)
  have HL2 := hide (show v14.length ≤ 12 by rw [hv14]; exact tkA_len _ _)
  have c15 := hide (fun wx (hx : Fx (w.heap.size + 1) wx s14) => zeros_fx (w.heap.size + 1) wx s14 1 1 rfl (by omega) hx)
  obtain ⟨s15, hs15⟩ : ∃ z, z = zeS s14 1 := ⟨_, rfl⟩
  rw [← hs15] at c15
  have c16 := hide (fun wx (hx : Fx (w.heap.size + 1) wx s15) => plugin_fx (w.heap.size + 1) wx s15 (cc) hx)
  obtain ⟨s16, hs16⟩ : ∃ z, z = plS s15 (cc) := ⟨_, rfl⟩
  rw [← hs16] at c16
  obtain ⟨v16, hv16⟩ : ∃ z, z = plA s15 (cc) := ⟨_, rfl⟩
  rw [← hv16] at c16
  have c17 := hide (fun wx (hx : Fx (w.heap.size + 1) wx s16) => end_fx (w.heap.size + 1) wx s16 hx)
  obtain ⟨s17, hs17⟩ : ∃ z, z = edS s16 := ⟨_, rfl⟩
  rw [← hs17] at c17
  have HRES := hide (show grR b = if s17.e = 0 then (⟨v2, v3, v4 ++ v14, cc, v8, v9, v16⟩, 0) else (⟨⟨#[]⟩, 0, [], 0, 0, 0, ⟨#[]⟩⟩, s17.e) by subst hs1 hs2 hv2 hs3 hv3 hs4 hv4 hs5 hs6 hv6 hs7 hs8 hv8 hs9 hv9 hs10 hv10 hcc hs11 hv11 hs12 hs13 hs14 hv14 hs15 hs16 hv16 hs17; rfl)
  clear hs1 hs2 hv2 hs3 hv3 hs4 hv4 hs5 hs6 hv6 hs7 hs8 hv8 hs9 hv9 hs10 hv10 hcc hs11 hv11 hs12 hs13 hs14 hv14 hs15 hs16 hv16 hs17
  generalize grR b = RR at *
  go_enter Try.func42, Try.ntmps42
  go_wp2_with fail
  refine (unhide c1 _ (unhide HR0).fx).mono ?_
  rintro e w1 ⟨rfl, ho⟩
  have HR1 := hide ((unhide HR0).call ho)
  clear ho c1 HR0
  go_wp2_with fail
  refine (unhide c2 _ (unhide HR1).fx).mono ?_
  rintro e w2 ⟨rfl, ho⟩
  have HR2 := hide ((unhide HR1).call ho)
  clear ho c2 HR1
  have q3 := (unhide HR2).cell (j := 0) (v := .string ⟨#[]⟩) rfl
  have qf3 := (unhide HR2).free 0
  have HR3 := hide ((unhide HR2).store 0 (.string v2) (cs' := #[.string v2, .int .u32 0, .slice none 0 0, .int .u32 0, .int .u8 0, .int .u16 0, .string ⟨#[]⟩]) rfl)
  clear HR2
  go_wp2_with fail
  clear q3 qf3
  refine (unhide c3 _ (unhide HR3).fx).mono ?_
  rintro e w4 ⟨⟨rfl, bl3, bh3⟩, ho⟩
  have HR4 := hide ((unhide HR3).call ho)
  clear ho c3 HR3
  have q5 := (unhide HR4).cell (j := 1) (v := .int .u32 0) rfl
  have qf5 := (unhide HR4).free 1
  have HR5 := hide ((unhide HR4).store 1 (.int .u32 v3) (cs' := #[.string v2, .int .u32 v3, .slice none 0 0, .int .u32 0, .int .u8 0, .int .u16 0, .string ⟨#[]⟩]) rfl)
  clear HR4
  go_wp2_with fail
  clear q5 qf5
  refine (unhide c4 _ (unhide HR5).fx).mono ?_
  rintro e w6 ⟨xo4, xn4, xc4, rfl, hm, ho⟩
  have HR6 := hide ((unhide HR5).call ho)
  have HM4_6 := hide (hm.bk.mono (B' := w.heap.size + 3) (unhide HR5).lt)
  clear ho c4 HR5 hm
  go_wp2_with fail
  refine (unhide c5 _ (unhide HR6).fx).mono ?_
  rintro e w7 ⟨rfl, ho⟩
  have HR7 := hide ((unhide HR6).call ho)
  have HM4_7 := hide ((unhide HM4_6).gb (g := w.heap.size + 1) (by omega) ho.2)
  clear ho c5 HR6 HM4_6
  go_wp2_with fail
  refine (unhide c6 _ (unhide HR7).fx).mono ?_
  rintro e w8 ⟨⟨rfl, bl6, bh6⟩, ho⟩
  have HR8 := hide ((unhide HR7).call ho)
  have HM4_8 := hide ((unhide HM4_7).gb (g := w.heap.size + 1) (by omega) ho.2)
  clear ho c6 HR7 HM4_7
  have q9 := (unhide HR8).cell (j := 3) (v := .int .u32 0) rfl
  have qf9 := (unhide HR8).free 3
  have HR9 := hide ((unhide HR8).store 3 (.int .u32 v6) (cs' := #[.string v2, .int .u32 v3, .slice none 0 0, .int .u32 v6, .int .u8 0, .int .u16 0, .string ⟨#[]⟩]) rfl)
  have HM4_9 := hide ((unhide HM4_8).set (g := w.heap.size + 2) (by omega) 3 (.int .u32 v6))
  clear HR8 HM4_8
  have x9_3 := (unhide HR9).cell (j := 3) (v := .int .u32 v6) rfl
  go_wp2_with fail
  clear q9 qf9 x9_3
  refine same_world (hasCore_any _ _) ?_
  go_wp2_with fail
  refine (unhide c7 _ (unhide HR9).fx).mono ?_
  rintro e w10 ⟨rfl, ho⟩
  have HR10 := hide ((unhide HR9).call ho)
  have HM4_10 := hide ((unhide HM4_9).gb (g := w.heap.size + 1) (by omega) ho.2)
  clear ho c7 HR9 HM4_9
  go_wp2_with fail
  refine (unhide c8 _ (unhide HR10).fx).mono ?_
  rintro e w11 ⟨⟨rfl, bl8, bh8⟩, ho⟩
  have HR11 := hide ((unhide HR10).call ho)
  have HM4_11 := hide ((unhide HM4_10).gb (g := w.heap.size + 1) (by omega) ho.2)
  clear ho c8 HR10 HM4_10
  have q12 := (unhide HR11).cell (j := 4) (v := .int .u8 0) rfl
  have qf12 := (unhide HR11).free 4
  have HR12 := hide ((unhide HR11).store 4 (.int .u8 v8) (cs' := #[.string v2, .int .u32 v3, .slice none 0 0, .int .u32 v6, .int .u8 v8, .int .u16 0, .string ⟨#[]⟩]) rfl)
  have HM4_12 := hide ((unhide HM4_11).set (g := w.heap.size + 2) (by omega) 4 (.int .u8 v8))
  clear HR11 HM4_11
  go_wp2_with fail
  clear q12 qf12
  refine (unhide c9 _ (unhide HR12).fx).mono ?_
  rintro e w13 ⟨⟨rfl, bl9, bh9⟩, ho⟩
  have HR13 := hide ((unhide HR12).call ho)
  have HM4_13 := hide ((unhide HM4_12).gb (g := w.heap.size + 1) (by omega) ho.2)
  clear ho c9 HR12 HM4_12
  have q14 := (unhide HR13).cell (j := 5) (v := .int .u16 0) rfl
  have qf14 := (unhide HR13).free 5
  have HR14 := hide ((unhide HR13).store 5 (.int .u16 v9) (cs' := #[.string v2, .int .u32 v3, .slice none 0 0, .int .u32 v6, .int .u8 v8, .int .u16 v9, .string ⟨#[]⟩]) rfl)
  have HM4_14 := hide ((unhide HM4_13).set (g := w.heap.size + 2) (by omega) 5 (.int .u16 v9))
  clear HR13 HM4_13
  go_upto_region 12 with fail
  clear q14 qf14
  go_cut [] (fun wx => Rw w 64 #[.string ⟨#[]⟩, .int .u32 0, .slice none 0 0, .int .u32 0, .int .u8 0, .int .u16 0, .string ⟨#[]⟩] #[.string v2, .int .u32 v3, .slice none 0 0, .int .u32 (bits .or .u32 v6 (v10 * 65536)), .int .u8 v8, .int .u16 v9, .string ⟨#[]⟩] wx s10 ∧ Bk (w.heap.size + 3) wx xo4 xn4 xc4 v4)
  case first =>
    have HRd := hide ((unhide HR14).drew)
    have kc := (unhide HRd).cell (j := 3) (v := .int .u32 v6) rfl
    have HMd := hide ((unhide HM4_14).later (below_drew1 _))
    go_region_with (go_at_call 98; refine (unhide c10 _ (unhide HRd).fx).mono ?_; rintro e wF ⟨⟨rfl, bl, bh⟩, ho⟩; have HRF := hide ((unhide HRd).call ho); have HMF := hide ((unhide HMd).gb (g := w.heap.size + 1) (by omega) ho.2); have kd := (unhide HRF).cell (j := 3) (v := .int .u32 v6) rfl; have kf := (unhide HRF).free 3; clear ho)
    all_goals have HRC := hide ((unhide HRF).store 3 (.int .u32 (bits .or .u32 v6 (v10 * 65536))) (cs' := #[.string v2, .int .u32 v3, .slice none 0 0, .int .u32 (bits .or .u32 v6 (v10 * 65536)), .int .u8 v8, .int .u16 v9, .string ⟨#[]⟩]) rfl)
    all_goals have HMC := hide ((unhide HMF).set (g := w.heap.size + 2) (by omega) 3 (.int .u32 (bits .or .u32 v6 (v10 * 65536))))
    all_goals go_wp2_with fail
    all_goals go_meet
    all_goals rw [show IntKind.u32.wrap (IntKind.u32.wrap v10 * 65536) = v10 * 65536 by rw [IntKind.wrap_u32, IntKind.wrap_u32]; omega]
    all_goals exact ⟨unhide HRC, unhide HMC⟩
  obtain ⟨hr, hm⟩ := hcut
  have HR15 := hide hr
  have HM4_15 := hide hm
  clear hr hm HR14 HM4_14 c10
  rw [← unhide HCC] at HR15
  go_upto_region 13 with fail
  go_cut [] (fun wx => Rw w 64 #[.string ⟨#[]⟩, .int .u32 0, .slice none 0 0, .int .u32 0, .int .u8 0, .int .u16 0, .string ⟨#[]⟩] #[.string v2, .int .u32 v3, .slice none 0 0, .int .u32 cc, .int .u8 v8, .int .u16 v9, .string ⟨#[]⟩] wx s12 ∧ Bk (w.heap.size + 3) wx xo4 xn4 xc4 v4)
  case first =>
    have HRd := hide ((unhide HR15).drew)
    have kc := (unhide HRd).cell (j := 3) (v := .int .u32 cc) rfl
    have HMd := hide ((unhide HM4_15).later (below_drew1 _))
    go_region_with (first
      | (go_at_call 98; refine (unhide c11 _ (unhide HRd).fx).mono ?_; rintro e wF ⟨⟨rfl, bl, bh⟩, ho⟩; have HRF := hide ((unhide HRd).call ho); have HMF := hide ((unhide HMd).gb (g := w.heap.size + 1) (by omega) ho.2); have kd := (unhide HRF).cell (j := 3) (v := .int .u32 cc) rfl; clear ho)
      | (go_at_call 94; refine same_world (nonceSize_any _ _) ?_)
      | (go_at_call 101; refine (unhide c12 _ (unhide HRF).fx).mono ?_; rintro e wG ⟨rfl, ho⟩; have HRG := hide ((unhide HRF).call ho); have HMG := hide ((unhide HMF).gb (g := w.heap.size + 1) (by omega) ho.2); clear ho))
    all_goals go_wp2_with fail
    all_goals go_meet
    all_goals exact ⟨unhide HRG, unhide HMG⟩
  obtain ⟨hr, hm⟩ := hcut
  have HR16 := hide hr
  have HM4_16 := hide hm
  clear hr hm HR15 HM4_15 c11 c12
  go_wp2_with fail
  refine (unhide c13 _ (unhide HR16).fx).mono ?_
  rintro e w17 ⟨rfl, ho⟩
  have HR17 := hide ((unhide HR16).call ho)
  have HM4_17 := hide ((unhide HM4_16).gb (g := w.heap.size + 1) (by omega) ho.2)
  clear ho c13 HR16 HM4_16
  go_wp2_with fail
  refine (unhide c14 _ (unhide HR17).fx).mono ?_
  rintro e w18 ⟨xo14, xn14, xc14, rfl, hm, ho⟩
  have HR18 := hide ((unhide HR17).call ho)
  have HM4_18 := hide ((unhide HM4_17).gb (g := w.heap.size + 1) (by omega) ho.2)
  have HM14_18 := hide (hm.bk.mono (B' := w.heap.size + 3) (unhide HR17).lt)
  clear ho c14 HR17 HM4_17 hm
  have cC := hide (concat_any w18.heap.size xo4 xn4 xc4 v4 xo14 xn14 xc14 v14 (w18.alloc (.cells #[.slice xo4 xn4 xc4, .slice xo14 xn14 xc14] 22)) ((unhide HM4_18).1.later (below_alloc w18 _)) ((unhide HM14_18).1.later (below_alloc w18 _)) (cell_top w18 _ _ 0 _ rfl) (cell_top w18 _ _ 1 _ rfl) (by have := (unhide HM4_18).1.len; have := unhide HL1; omega) (by have := (unhide HM14_18).1.len; have := unhide HL2; omega))
  have HR19 := hide ((unhide HR18).later (below_alloc w18 (.cells #[.slice xo4 xn4 xc4, .slice xo14 xn14 xc14] 22)))
  go_wp2_with fail
  refine (unhide cC).mono ?_
  rintro e wN ⟨xo90, xn90, xc90, rfl, hm, hb⟩
  have HR20 := hide ((unhide HR19).later hb)
  have HM90_20 := hide (hm.bk.mono (B' := w.heap.size + 3) (unhide HR19).lt)
  clear hm hb cC HR18 HR19 HM4_18 HM14_18 HL1 HL2
  have q21 := (unhide HR20).cell (j := 2) (v := .slice none 0 0) rfl
  have qf21 := (unhide HR20).free 2
  have HR21 := hide ((unhide HR20).store 2 (.slice xo90 xn90 xc90) (cs' := #[.string v2, .int .u32 v3, .slice xo90 xn90 xc90, .int .u32 cc, .int .u8 v8, .int .u16 v9, .string ⟨#[]⟩]) rfl)
  have HM90_21 := hide ((unhide HM90_20).set (g := w.heap.size + 2) (by omega) 2 (.slice xo90 xn90 xc90))
  clear HR20 HM90_20
  go_wp2_with fail
  clear q21 qf21
  refine (unhide c15 _ (unhide HR21).fx).mono ?_
  rintro e w22 ⟨rfl, ho⟩
  have HR22 := hide ((unhide HR21).call ho)
  have HM90_22 := hide ((unhide HM90_21).gb (g := w.heap.size + 1) (by omega) ho.2)
  clear ho c15 HR21 HM90_21
  have x22_3 := (unhide HR22).cell (j := 3) (v := .int .u32 cc) rfl
  go_wp2_with fail
  clear x22_3
  refine (unhide c16 _ (unhide HR22).fx).mono ?_
  rintro e w23 ⟨rfl, ho⟩
  have HR23 := hide ((unhide HR22).call ho)
  have HM90_23 := hide ((unhide HM90_22).gb (g := w.heap.size + 1) (by omega) ho.2)
  clear ho c16 HR22 HM90_22
  have q24 := (unhide HR23).cell (j := 6) (v := .string ⟨#[]⟩) rfl
  have qf24 := (unhide HR23).free 6
  have HR24 := hide ((unhide HR23).store 6 (.string v16) (cs' := #[.string v2, .int .u32 v3, .slice xo90 xn90 xc90, .int .u32 cc, .int .u8 v8, .int .u16 v9, .string v16]) rfl)
  have HM90_24 := hide ((unhide HM90_23).set (g := w.heap.size + 2) (by omega) 6 (.string v16))
  clear HR23 HM90_23
  go_wp2_with fail
  clear q24 qf24
  refine (unhide c17 _ (unhide HR24).fx).mono ?_
  rintro e w25 ⟨rfl, ho⟩
  have HR25 := hide ((unhide HR24).call ho)
  have HM90_25 := hide ((unhide HM90_24).gb (g := w.heap.size + 1) (by omega) ho.2)
  clear ho c17 HR24 HM90_24
  have k1 := (unhide HR25).fx.c1
  have t0 := (unhide HR25).cell (j := 0) (v := .string v2) rfl
  have t1 := (unhide HR25).cell (j := 1) (v := .int .u32 v3) rfl
  have t2 := (unhide HR25).cell (j := 2) (v := .slice xo90 xn90 xc90) rfl
  have t3 := (unhide HR25).cell (j := 3) (v := .int .u32 cc) rfl
  have t4 := (unhide HR25).cell (j := 4) (v := .int .u8 v8) rfl
  have t5 := (unhide HR25).cell (j := 5) (v := .int .u16 v9) rfl
  have t6 := (unhide HR25).cell (j := 6) (v := .string v16) rfl
  have u0 := (unhide HR25).rcell (j := 0) (v := .string ⟨#[]⟩) rfl
  have uf0 := (unhide HR25).rfree 0
  have u1 := (unhide HR25).rcell (j := 1) (v := .int .u32 0) rfl
  have uf1 := (unhide HR25).rfree 1
  have u2 := (unhide HR25).rcell (j := 2) (v := .slice none 0 0) rfl
  have uf2 := (unhide HR25).rfree 2
  have u3 := (unhide HR25).rcell (j := 3) (v := .int .u32 0) rfl
  have uf3 := (unhide HR25).rfree 3
  have u4 := (unhide HR25).rcell (j := 4) (v := .int .u8 0) rfl
  have uf4 := (unhide HR25).rfree 4
  have u5 := (unhide HR25).rcell (j := 5) (v := .int .u16 0) rfl
  have uf5 := (unhide HR25).rfree 5
  have u6 := (unhide HR25).rcell (j := 6) (v := .string ⟨#[]⟩) rfl
  have uf6 := (unhide HR25).rfree 6
  by_cases he : s17.e = 0
  · have he' : (s17.e != 0) = false := by simpa using he
    have HR' := hide (show RR = (⟨v2, v3, v4 ++ v14, cc, v8, v9, v16⟩, 0) by rw [unhide HRES, if_pos he])
    clear HRES he
    generalize s17.e = E at *
    go_wp2_with fail
    refine bodyPost_ret (results_row_tmp rfl _ _ w.heap.size _ rfl (run_loadVar_row _ w.heap.size _ _ _ _ _ (show _ = some (Obj.cells #[.string v2, .int .u32 v3, .slice xo90 xn90 xc90, .int .u32 cc, .int .u8 v8, .int .u16 v9, .string v16] 64 (0, 0)) from (heap_setCell_same _ w.heap.size 6 _ _ _ (heap_setCell_same _ w.heap.size 5 _ _ _ (heap_setCell_same _ w.heap.size 4 _ _ _ (heap_setCell_same _ w.heap.size 3 _ _ _ (heap_setCell_same _ w.heap.size 2 _ _ _ (heap_setCell_same _ w.heap.size 1 _ _ _ (heap_setCell_same _ w.heap.size 0 _ _ _ (unhide HR25).res)))))))) Try.underlying64 rfl (by kernel_rfl))) rfl ?_
    rw [unhide HR']
    exact ⟨_, _, _, rfl, ((((((((unhide HM90_25).set (g := w.heap.size) (by omega) _ _).set (g := w.heap.size) (by omega) _ _).set (g := w.heap.size) (by omega) _ _).set (g := w.heap.size) (by omega) _ _).set (g := w.heap.size) (by omega) _ _).set (g := w.heap.size) (by omega) _ _).set (g := w.heap.size) (by omega) _ _).1, ((((((((unhide HR25).bel.setCell (Nat.le_refl _) _).setCell (Nat.le_refl _) _).setCell (Nat.le_refl _) _).setCell (Nat.le_refl _) _).setCell (Nat.le_refl _) _).setCell (Nat.le_refl _) _).setCell (Nat.le_refl _) _)⟩
  · have he' : (s17.e != 0) = true := by simpa using he
    have HR' := hide (show RR = (⟨⟨#[]⟩, 0, [], 0, 0, 0, ⟨#[]⟩⟩, s17.e) by rw [unhide HRES, if_neg he])
    clear HRES he
    generalize s17.e = E at *
    go_wp2_with fail
    go_region
    go_wp2_with fail
    refine bodyPost_ret (results_row_tmp rfl _ _ w.heap.size _ rfl (run_loadVar_row _ w.heap.size _ _ _ _ _ (show _ = some (Obj.cells #[.string ⟨#[]⟩, .int .u32 0, .slice none 0 0, .int .u32 0, .int .u8 0, .int .u16 0, .string ⟨#[]⟩] 64 (0, 0)) from (drew_row (heap_setCell_same _ w.heap.size 6 _ _ _ (heap_setCell_same _ w.heap.size 5 _ _ _ (heap_setCell_same _ w.heap.size 4 _ _ _ (heap_setCell_same _ w.heap.size 3 _ _ _ (heap_setCell_same _ w.heap.size 2 _ _ _ (heap_setCell_same _ w.heap.size 1 _ _ _ (heap_setCell_same _ w.heap.size 0 _ _ _ (unhide HR25).res))))))))) Try.underlying64 rfl (by kernel_rfl))) rfl ?_
    rw [unhide HR']
    exact ⟨none, 0, 0, rfl, Bs.nought _, ((((((((unhide HR25).bel.setCell (Nat.le_refl _) _).setCell (Nat.le_refl _) _).setCell (Nat.le_refl _) _).setCell (Nat.le_refl _) _).setCell (Nat.le_refl _) _).setCell (Nat.le_refl _) _).setCell (Nat.le_refl _) _).drew⟩

end Go.Proofs.Ytkijdkbkbelliaa
