/-
  What AppendOk returns: the bytes behind b in new memory, or an error. Conditions: the slices can be read; lengths below 2 to the 40.
-/
import Derived.Test.YtkijdkbkbelliaaRyApp
namespace Go.Proofs.Ytkijdkbkbelliaa
open Go.RowKit
set_option linter.unusedVariables false
set_option linter.unusedSimpArgs false

set_option maxHeartbeats 4000000 in
set_option maxRecDepth 100000 in
theorem appendOk_any (bo : Option Addr) (bn bc : Nat) (b : List Int) (c : Int) (p : Ok) (last : Bool) (xo : Option Addr) (xn xc : Nat) (w : World) (hb : Bs w bo bn bc b) (hx : Bs w xo xn xc p.tr) (hK : OkK p) (hsz : b.length + p.info.size + p.tr.length + 200 ≤ 1099511627776) :
    Calls Try.prog 9 #[.slice bo bn bc, .int .u32 c, .agg #[.int .u64 p.af, .int .u64 p.ins, .int .u16 p.st, .int .u16 p.wa, .string p.info, .slice xo xn xc], .bool last] w fun e w' => OutP w (if oOk c p = true then some (b ++ okB c last p) else none) e w' := by
  have b0 := below_alloc w (.cells #[.int .u64 p.af, .int .u64 p.ins, .int .u16 p.st, .int .u16 p.wa, .string p.info, .slice xo xn xc] 31)
  have hbl := hb.len
  have hxl := hx.len
  have szs : (strOfNums p.tr).size = p.tr.length := by rw [show (strOfNums p.tr).size = (strOfNums p.tr).data.toList.length by simp, strOfNums_data]; simp
  have HTX := hide (show txB (strOfNums p.tr) = form p.tr.length ++ p.tr by unfold txB; rw [szs, nums_str hx.byt])
  have cN := hide (newWriter_wx bo bn bc b _ (hb.later b0) (by omega))
  have HX := hide hx
  have B0 := hide b0
  obtain ⟨F0, hF0⟩ : ∃ z : Int, z = (if last then 254 else 0) := ⟨_, rfl⟩
  have bF0 : 0 ≤ F0 := by rw [hF0]; split <;> omega
  have bF1 : F0 ≤ 255 := by rw [hF0]; split <;> omega
  have cF := hide (fun wx => okFirst_any last wx)
  rw [← hF0] at cF
  obtain ⟨l1, hl1⟩ : ∃ z, z = b ++ [F0] := ⟨_, rfl⟩
  have m1 : l1.length ≤ b.length + 1 := by rw [hl1]; simp
  have c1 := hide (fun (B g : Nat) wx (hx : WX B g wx b) => wmark_wx B g wx b F0 bF0 bF1 (by omega) hx)
  rw [← hl1] at c1
  obtain ⟨l2, hl2⟩ : ∃ z, z = l1 ++ form p.af := ⟨_, rfl⟩
  have m2 : l2.length ≤ l1.length + 9 := by rw [hl2, List.length_append]; have := form_length_le p.af; omega
  have c2 := hide (fun (B g : Nat) wx (hx : WX B g wx l1) => wnumber_wx B g wx l1 p.af hK.af.1 hK.af.2 (by omega) hx)
  rw [← hl2] at c2
  obtain ⟨l3, hl3⟩ : ∃ z, z = l2 ++ form p.ins := ⟨_, rfl⟩
  have m3 : l3.length ≤ l2.length + 9 := by rw [hl3, List.length_append]; have := form_length_le p.ins; omega
  have c3 := hide (fun (B g : Nat) wx (hx : WX B g wx l2) => wnumber_wx B g wx l2 p.ins hK.ins.1 hK.ins.2 (by omega) hx)
  rw [← hl3] at c3
  obtain ⟨l4, hl4⟩ : ∃ z, z = l3 ++ le p.st 2 := ⟨_, rfl⟩
  have m4 : l4.length ≤ l3.length + 2 := by rw [hl4, List.length_append, le_length]; exact Nat.le_refl _
  have c4 := hide (fun (B g : Nat) wx (hx : WX B g wx l3) => wfixed_wx B g wx l3 p.st 2 2 65536 rfl hK.st.1 (by omega) (by omega) (by decide) hK.st.2 (by omega) (by omega) hx)
  rw [← hl4] at c4
  obtain ⟨l5, hl5⟩ : ∃ z, z = l4 ++ le p.wa 2 := ⟨_, rfl⟩
  have m5 : l5.length ≤ l4.length + 2 := by rw [hl5, List.length_append, le_length]; exact Nat.le_refl _
  have c5 := hide (fun (B g : Nat) wx (hx : WX B g wx l4) => wfixed_wx B g wx l4 p.wa 2 2 65536 rfl hK.wa.1 (by omega) (by omega) (by decide) hK.wa.2 (by omega) (by omega) hx)
  rw [← hl5] at c5
  have cR := hide (fun (B g : Nat) wx (hx : WX B g wx l5) => wraw_wx B g wx l5 p.info (by omega) hx)
  have cT := hide (fun (B g : Nat) wx (hx : WX B g wx l5) => wtext_wx B g wx l5 p.info (by omega) hx)
  have cU := hide (fun (B g : Nat) wx (hx : WX B g wx (l5 ++ txB p.info)) => wtext_wx B g wx (l5 ++ txB p.info) (strOfNums p.tr) (by rw [List.length_append, szs]; have := txB_len p.info; omega) hx)
  have HRS := hide (show b ++ okB c last p = l5 ++ okT c p by subst hF0 hl1 hl2 hl3 hl4 hl5; simp only [okB, List.append_assoc])
  clear hF0 hl1 hl2 hl3 hl4 hl5
  generalize b ++ okB c last p = RR at *
  have haf1 := hK.af.1
  have haf2 := hK.af.2
  have hin1 := hK.ins.1
  have hin2 := hK.ins.2
  have hst1 := hK.st.1
  have hst2 := hK.st.2
  have hwa1 := hK.wa.1
  have hwa2 := hK.wa.2
  have cH := hide (fun wx => hasTrack_any c p.st wx)
  have p2 := cell_top w #[.int .u64 p.af, .int .u64 p.ins, .int .u16 p.st, .int .u16 p.wa, .string p.info, .slice xo xn xc] 31 2 _ rfl
  have p5 := cell_top w #[.int .u64 p.af, .int .u64 p.ins, .int .u16 p.st, .int .u16 p.wa, .string p.info, .slice xo xn xc] 31 5 _ rfl
  have hmx := hx.max
  have hle := hx.le
  obtain ⟨RZ, hRZ⟩ : ∃ z, z = (if oOk c p = true then some RR else none) := ⟨_, rfl⟩
  rw [← hRZ]
  have HRZ := hide hRZ
  clear hb b0 hx hK szs hRZ
  go_enter Try.func9, Try.ntmps9
  go_upto_region 1 with fail
  go_cut [21] (fun v wx => v = .bool (!oOk c p) ∧ wx = (w.alloc (.cells #[.int .u64 p.af, .int .u64 p.ins, .int .u16 p.st, .int .u16 p.wa, .string p.info, .slice xo xn xc] 31)))
  case first =>
    by_cases q : xn = 0
    · have e0 : oOk c p = true := by unfold oOk; rw [List.eq_nil_of_length_eq_zero (hxl.trans q)]; rfl
      have E0 := hide e0
      subst q
      clear e0 hxl
      go_wp2_with fail
      go_meet
      rw [unhide E0]
      exact ⟨rfl, rfl⟩
    · have e0 : oOk c p = trk c p.st := by unfold oOk; cases h0 : p.tr; rw [h0] at hxl; simp at hxl; omega; rfl
      have E0 := hide e0
      have q1 : (0 : Int) < (xn : Int) := by omega
      clear e0 hxl q
      go_wp2_with fail
      refine same_world (unhide cH _) ?_
      go_wp2_with fail
      go_meet
      rw [unhide E0]
      exact ⟨rfl, rfl⟩
  obtain ⟨rfl, rfl⟩ := hcut
  cases q : oOk c p
  · rw [q, if_neg (by decide)] at HRZ
    rw [Bool.not_false]
    clear q
    go_wp2_with fail
    go_ret2
    rw [unhide HRZ]
    exact ⟨rfl, unhide B0⟩
  · rw [q, if_pos rfl] at HRZ
    rw [Bool.not_true]
    clear q p2 p5 hxl
    go_wp2_with fail
    refine (unhide cN).mono ?_
    rintro e w2 ⟨g, rfl, ho⟩
    have HW0 := hide (Ww.start w 31 #[.int .u64 p.af, .int .u64 p.ins, .int .u16 p.st, .int .u16 p.wa, .string p.info, .slice xo xn xc] (Below.refl _ _) ho)
    clear ho cN
    go_wp2_with fail
    refine same_world (unhide cF _) ?_
    go_wp2_with fail
    refine (unhide c1 _ _ _ (unhide HW0).wx).mono ?_
    rintro e w3 ⟨rfl, ho⟩
    have HW1 := hide ((unhide HW0).call ho)
    clear ho c1 HW0
    have x1_0 := (unhide HW1).cell (j := 0) (v := .int .u64 p.af) rfl
    go_wp2_with fail
    clear x1_0
    refine (unhide c2 _ _ _ (unhide HW1).wx).mono ?_
    rintro e w4 ⟨rfl, ho⟩
    have HW2 := hide ((unhide HW1).call ho)
    clear ho c2 HW1
    have x2_1 := (unhide HW2).cell (j := 1) (v := .int .u64 p.ins) rfl
    go_wp2_with fail
    clear x2_1
    refine (unhide c3 _ _ _ (unhide HW2).wx).mono ?_
    rintro e w5 ⟨rfl, ho⟩
    have HW3 := hide ((unhide HW2).call ho)
    clear ho c3 HW2
    have x3_2 := (unhide HW3).cell (j := 2) (v := .int .u16 p.st) rfl
    go_wp2_with fail
    clear x3_2
    refine (unhide c4 _ _ _ (unhide HW3).wx).mono ?_
    rintro e w6 ⟨rfl, ho⟩
    have HW4 := hide ((unhide HW3).call ho)
    clear ho c4 HW3
    have x4_3 := (unhide HW4).cell (j := 3) (v := .int .u16 p.wa) rfl
    go_wp2_with fail
    clear x4_3
    refine (unhide c5 _ _ _ (unhide HW4).wx).mono ?_
    rintro e w7 ⟨rfl, ho⟩
    have HW5 := hide ((unhide HW4).call ho)
    clear ho c5 HW4
    cases q : has c 8388608
    · have q1 : (bits .and .u32 c 8388608 == 0) = true := by unfold has at q; simpa using q
      have HRES := hide (show RR = l5 ++ nums p.info by rw [unhide HRS]; unfold okT; rw [if_pos q])
      generalize l5 ++ nums p.info = l6 at *
      have x4 := (unhide HW5).cell (j := 4) (v := .string p.info) rfl
      clear q HRS cT cU cH
      go_wp2_with fail
      clear x4
      refine (unhide cR _ _ _ (unhide HW5).wx).mono ?_
      rintro e w20 ⟨rfl, ho⟩
      have HW20 := hide ((unhide HW5).call ho)
      clear ho cR HW5
      obtain ⟨ao, n, c0, k0, hm⟩ := (unhide HW20).wx.cell
      have HM := hide (hm.mono (Nat.le_of_lt (unhide HW20).lt))
      clear hm
      go_wp2_with fail
      go_ret2
      rw [unhide HRZ]; rw [unhide HRES]
      exact ⟨ao, n, c0, rfl, unhide HM, (unhide HW20).bel⟩
    · have q1 : (bits .and .u32 c 8388608 == 0) = false := by unfold has at q; simpa using q
      have x4 := (unhide HW5).cell (j := 4) (v := .string p.info) rfl
      clear cR
      go_wp2_with fail
      clear x4
      refine (unhide cT _ _ _ (unhide HW5).wx).mono ?_
      rintro e w20 ⟨rfl, ho⟩
      have HW20 := hide ((unhide HW5).call ho)
      have x2 := (unhide HW20).cell (j := 2) (v := .int .u16 p.st) rfl
      clear ho cT HW5
      go_wp2_with fail
      clear x2
      refine same_world (unhide cH _) ?_
      cases q2 : trk c p.st
      · have HRES := hide (show RR = l5 ++ txB p.info by rw [unhide HRS]; unfold okT; rw [if_neg (by rw [q]; decide), if_neg (by rw [q2]; decide)])
        clear q q2 HRS cU cH
        generalize l5 ++ txB p.info = l6 at *
        obtain ⟨ao, n, c0, k0, hm⟩ := (unhide HW20).wx.cell
        have HM := hide (hm.mono (Nat.le_of_lt (unhide HW20).lt))
        clear hm
        go_wp2_with fail
        go_ret2
        rw [unhide HRZ]; rw [unhide HRES]
        exact ⟨ao, n, c0, rfl, unhide HM, (unhide HW20).bel⟩
      · have HRES := hide (show RR = l5 ++ txB p.info ++ txB (strOfNums p.tr) by rw [unhide HRS]; unfold okT; rw [if_neg (by rw [q]; decide), if_pos q2, unhide HTX, List.append_assoc])
        clear q q2 HRS cH
        have hstr := ((unhide HX).later (unhide HW20).bel).str
        have x5 := (unhide HW20).cell (j := 5) (v := .slice xo xn xc) rfl
        generalize strOfNums p.tr = ST at *
        go_wp2_with fail
        clear x5 hstr
        refine (unhide cU _ _ _ (unhide HW20).wx).mono ?_
        rintro e w21 ⟨rfl, ho⟩
        have HW21 := hide ((unhide HW20).call ho)
        generalize l5 ++ txB p.info ++ txB ST = l7 at *
        clear ho cU HW20
        obtain ⟨ao, n, c0, k0, hm⟩ := (unhide HW21).wx.cell
        have HM := hide (hm.mono (Nat.le_of_lt (unhide HW21).lt))
        clear hm
        go_wp2_with fail
        go_ret2
        rw [unhide HRZ]; rw [unhide HRES]
        exact ⟨ao, n, c0, rfl, unhide HM, (unhide HW21).bel⟩

end Go.Proofs.Ytkijdkbkbelliaa
