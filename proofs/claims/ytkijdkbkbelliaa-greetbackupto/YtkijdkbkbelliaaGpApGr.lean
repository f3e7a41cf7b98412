/-
  What AppendGreeting returns: the bytes behind b in new memory, or an error. Conditions: the slices can be read; lengths below 2 to the 40.
-/
import Derived.Test.YtkijdkbkbelliaaGpBy
import Derived.Deep.CutRange
import Derived.Deep.DeepCutAuto
namespace Go.Proofs.Ytkijdkbkbelliaa
open Go.RowKit
set_option linter.unusedVariables false
set_option linter.unusedSimpArgs false

set_option maxHeartbeats 4000000 in
set_option maxRecDepth 100000 in
theorem appendGreeting_any (bo : Option Addr) (bn bc : Nat) (b : List Int) (xo : Option Addr) (xn xc : Nat) (p : Gr) (w : World) (hb : Bs w bo bn bc b) (hx : Bs w xo xn xc p.no) (hK : GrK p) (hsz : b.length + p.ve.size + p.pl.size + 200 ≤ 1099511627776) :
    Calls Try.prog 41 #[.slice bo bn bc, .agg #[.string p.ve, .int .u32 p.th, .slice xo xn xc, .int .u32 p.ca, .int .u8 p.ch, .int .u16 p.st, .string p.pl]] w fun e w' => OutP w (if gOk p = true then some (b ++ grB p) else none) e w' := by
  have b0 := below_alloc w (.cells #[.string p.ve, .int .u32 p.th, .slice xo xn xc, .int .u32 p.ca, .int .u8 p.ch, .int .u16 p.st, .string p.pl] 64)
  have z0 : (w.alloc (.cells #[.string p.ve, .int .u32 p.th, .slice xo xn xc, .int .u32 p.ca, .int .u8 p.ch, .int .u16 p.st, .string p.pl] 64)).heap.size = w.heap.size + 1 := by simp
  have cM := hide (greetingMayBe_any xo xn xc p _ (hx.later b0))
  have hbl := hb.len
  cases q : gOk p
  · rw [q] at cM
    rw [if_neg (by simp)]
    have B0 := hide b0
    clear hb b0 hbl q hsz
    go_enter Try.func41, Try.ntmps41
    go_wp2_with fail
    refine (unhide cM).mono ?_
    rintro e w1 ⟨rfl, b1⟩
    have B1 := hide ((unhide B0).trans (b1.mono (by rw [z0]; omega)))
    clear b1 cM B0
    go_wp2_with fail
    go_ret2
    exact ⟨rfl, unhide B1⟩
  · rw [q] at cM
    rw [if_pos rfl]
    unfold gOk at q
    simp only [Bool.and_eq_true, beq_iff_eq] at q
    have h1 := q.2.1
    have h4 := q.2.2.2
    have h20 : p.no.length = 20 := by have := q.2.2.1; unfold nck at this; split at this; rename_i u; exact u.1; omega
    have hxn : xn = 20 := by rw [← hx.len]; exact h20
    obtain ⟨ya, yca, hya, hyb⟩ := hx.cut_h (hi := 8) (by omega) 8 rfl
    obtain ⟨za, zca, hza, hzb⟩ := hx.cut_l (lo := 8) (by omega) 8 rfl
    have HXA := hide (fun (wx : World) (hbx : Below w.heap.size w wx) => hyb.later hbx)
    have HXB := hide (fun (wx : World) (hbx : Below w.heap.size w wx) => hzb.later hbx)
    have elo := and_low hK.ca.1 hK.ca.2
    obtain ⟨LO, eLO⟩ : ∃ z, z = p.ca % 65536 := ⟨_, rfl⟩
    obtain ⟨HI, eHI⟩ : ∃ z, z = p.ca / 65536 := ⟨_, rfl⟩
    have hlo : 0 ≤ LO ∧ LO < 65536 := by omega
    have hhi : 0 ≤ HI ∧ HI < 65536 := by have := hK.ca; omega
    have hca0 := hK.ca.1
    have hca1 := hK.ca.2
    have hth0 := hK.th.1
    have hth1 := hK.th.2
    have hch0 := hK.ch.1
    have hch1 := hK.ch.2
    have hst0 := hK.st.1
    have hst1 := hK.st.2
    have hlo0 := hlo.1
    have hlo1 := hlo.2
    have hhi0 := hhi.1
    have hhi1 := hhi.2
    have elo2 : bits .and .u32 p.ca 65535 = LO := by rw [elo, eLO]
    have ehi2 : p.ca / 65536 = HI := eHI.symm
    have ehi3 : p.ca / 2 ^ 16 = HI := eHI.symm
    clear q elo hyb hzb hx hxn
    obtain ⟨l1, hl1⟩ : ∃ z, z = b ++ [10] := ⟨_, rfl⟩
    have m1 : l1.length ≤ b.length + 1 := by rw [hl1]; simp
    have c1 := hide (fun (B g : Nat) wx (hx : WX B g wx b) => wmark_wx B g wx b 10 (by omega) (by omega) (by omega) hx)
    rw [← hl1] at c1
    obtain ⟨l2, hl2⟩ : ∃ z, z = l1 ++ enB p.ve := ⟨_, rfl⟩
    have m2 : l2.length ≤ l1.length + (p.ve.size + 1) := by rw [hl2, List.length_append, enB_len]; exact Nat.le_refl _
    have c2 := hide (fun (B g : Nat) wx (hx : WX B g wx l1) => wended_wx B g wx l1 p.ve h1 (by omega) hx)
    rw [← hl2] at c2
    obtain ⟨l3, hl3⟩ : ∃ z, z = l2 ++ le p.th 4 := ⟨_, rfl⟩
    have m3 : l3.length ≤ l2.length + 4 := by rw [hl3, List.length_append, le_length]; exact Nat.le_refl _
    have c3 := hide (fun (B g : Nat) wx (hx : WX B g wx l2) => wfixed_wx B g wx l2 p.th 4 4 4294967296 rfl hK.th.1 (by omega) (by omega) (by decide) hK.th.2 (by omega) (by omega) hx)
    rw [← hl3] at c3
    obtain ⟨l4, hl4⟩ : ∃ z, z = l3 ++ p.no.take 8 := ⟨_, rfl⟩
    have m4 : l4.length ≤ l3.length + 8 := by rw [hl4]; simp; omega
    have c4 := hide (fun (B g : Nat) wx (hx : WX B g wx l3) => fun fo fn fc hf => raw_wx B g wx l3 fo fn fc (p.no.take 8) (by simp; omega) hx hf)
    rw [← hl4] at c4
    obtain ⟨l5, hl5⟩ : ∃ z, z = l4 ++ List.replicate 1 0 := ⟨_, rfl⟩
    have m5 : l5.length ≤ l4.length + 1 := by rw [hl5]; simp
    have c5 := hide (fun (B g : Nat) wx (hx : WX B g wx l4) => wzeros_wx B g wx l4 1 1 rfl (by omega) hx)
    rw [← hl5] at c5
    obtain ⟨l6, hl6⟩ : ∃ z, z = l5 ++ le LO 2 := ⟨_, rfl⟩
    have m6 : l6.length ≤ l5.length + 2 := by rw [hl6, List.length_append, le_length]; exact Nat.le_refl _
    have c6 := hide (fun (B g : Nat) wx (hx : WX B g wx l5) => wfixed_wx B g wx l5 LO 2 2 65536 rfl hlo.1 (by omega) (by omega) (by decide) hlo.2 (by omega) (by omega) hx)
    rw [← hl6] at c6
    obtain ⟨l7, hl7⟩ : ∃ z, z = l6 ++ le p.ch 1 := ⟨_, rfl⟩
    have m7 : l7.length ≤ l6.length + 1 := by rw [hl7, List.length_append, le_length]; exact Nat.le_refl _
    have c7 := hide (fun (B g : Nat) wx (hx : WX B g wx l6) => wfixed_wx B g wx l6 p.ch 1 1 256 rfl hK.ch.1 (by omega) (by omega) (by decide) hK.ch.2 (by omega) (by omega) hx)
    rw [← hl7] at c7
    obtain ⟨l8, hl8⟩ : ∃ z, z = l7 ++ le p.st 2 := ⟨_, rfl⟩
    have m8 : l8.length ≤ l7.length + 2 := by rw [hl8, List.length_append, le_length]; exact Nat.le_refl _
    have c8 := hide (fun (B g : Nat) wx (hx : WX B g wx l7) => wfixed_wx B g wx l7 p.st 2 2 65536 rfl hK.st.1 (by omega) (by omega) (by decide) hK.st.2 (by omega) (by omega) hx)
    rw [← hl8] at c8
    obtain ⟨l9, hl9⟩ : ∃ z, z = l8 ++ le HI 2 := ⟨_, rfl⟩
    have m9 : l9.length ≤ l8.length + 2 := by rw [hl9, List.length_append, le_length]; exact Nat.le_refl _
    have c9 := hide (fun (B g : Nat) wx (hx : WX B g wx l8) => wfixed_wx B g wx l8 HI 2 2 65536 rfl hhi.1 (by omega) (by omega) (by decide) hhi.2 (by omega) (by omega) hx)
    rw [← hl9] at c9
    obtain ⟨l10, hl10⟩ : ∃ z, z = l9 ++ le (nsz p.ca) 1 := ⟨_, rfl⟩
    have m10 : l10.length ≤ l9.length + 1 := by rw [hl10, List.length_append, le_length]; exact Nat.le_refl _
    have c10 := hide (fun (B g : Nat) wx (hx : WX B g wx l9) => wfixed_wx B g wx l9 (nsz p.ca) 1 1 256 rfl (nsz_bd p.ca).1 (by omega) (by omega) (by decide) (nsz_bd p.ca).2 (by omega) (by omega) hx)
    rw [← hl10] at c10
    obtain ⟨l11, hl11⟩ : ∃ z, z = l10 ++ List.replicate 10 0 := ⟨_, rfl⟩
    have m11 : l11.length ≤ l10.length + 10 := by rw [hl11]; simp
    have c11 := hide (fun (B g : Nat) wx (hx : WX B g wx l10) => wzeros_wx B g wx l10 10 10 rfl (by omega) hx)
    rw [← hl11] at c11
    obtain ⟨l12, hl12⟩ : ∃ z, z = l11 ++ p.no.drop 8 := ⟨_, rfl⟩
    have m12 : l12.length ≤ l11.length + 20 := by rw [hl12]; simp; omega
    have c12 := hide (fun (B g : Nat) wx (hx : WX B g wx l11) => fun fo fn fc hf => raw_wx B g wx l11 fo fn fc (p.no.drop 8) (by simp; omega) hx hf)
    rw [← hl12] at c12
    obtain ⟨l13, hl13⟩ : ∃ z, z = l12 ++ List.replicate 1 0 := ⟨_, rfl⟩
    have m13 : l13.length ≤ l12.length + 1 := by rw [hl13]; simp
    have c13 := hide (fun (B g : Nat) wx (hx : WX B g wx l12) => wzeros_wx B g wx l12 1 1 rfl (by omega) hx)
    rw [← hl13] at c13
    obtain ⟨l14, hl14⟩ : ∃ z, z = l13 ++ plB p.ca p.pl := ⟨_, rfl⟩
    have m14 : l14.length ≤ l13.length + (p.pl.size + 1) := by rw [hl14, List.length_append]; have := plB_len p.ca p.pl; omega
    have c14 := hide (fun (B g : Nat) wx (hx : WX B g wx l13) => wplugin_wx B g wx l13 p.ca p.pl h4 (by omega) hx)
    rw [← hl14] at c14
    have HRES := hide (show b ++ grB p = l14 by subst eLO eHI hl1 hl2 hl3 hl4 hl5 hl6 hl7 hl8 hl9 hl10 hl11 hl12 hl13 hl14; simp only [grB, List.append_assoc])
    clear eLO eHI hl1 hl2 hl3 hl4 hl5 hl6 hl7 hl8 hl9 hl10 hl11 hl12 hl13 hl14
    generalize b ++ grB p = RR at *
    have HBB := hide hb
    have B0 := hide b0
    clear hb b0
    go_enter Try.func41, Try.ntmps41
    go_wp2_with fail
    refine (unhide cM).mono ?_
    rintro e w1 ⟨rfl, b1⟩
    have cN := hide (newWriter_wx bo bn bc b w1 ((unhide HBB).later ((unhide B0).trans (b1.mono (by rw [z0]; omega)))) (by omega))
    have BM := hide (b1.mono (show w.heap.size + 1 ≤ _ by rw [z0]; exact Nat.le_refl _))
    clear b1 cM
    go_wp2_with fail
    refine (unhide cN).mono ?_
    rintro e w2 ⟨g, rfl, ho⟩
    have HW0 := hide (Ww.start w 64 #[.string p.ve, .int .u32 p.th, .slice xo xn xc, .int .u32 p.ca, .int .u8 p.ch, .int .u16 p.st, .string p.pl] (unhide BM) ho)
    clear ho cN BM
    go_wp2_with fail
    refine (unhide c1 _ _ _ (unhide HW0).wx).mono ?_
    rintro e w3 ⟨rfl, ho⟩
    have HW1 := hide ((unhide HW0).call ho)
    clear ho c1 HW0
    have x1_0 := (unhide HW1).cell (j := 0) (v := .string p.ve) rfl
    go_wp2_with fail
    clear x1_0
    refine (unhide c2 _ _ _ (unhide HW1).wx).mono ?_
    rintro e w4 ⟨rfl, ho⟩
    have HW2 := hide ((unhide HW1).call ho)
    clear ho c2 HW1
    have x2_1 := (unhide HW2).cell (j := 1) (v := .int .u32 p.th) rfl
    go_wp2_with fail
    clear x2_1
    refine (unhide c3 _ _ _ (unhide HW2).wx).mono ?_
    rintro e w5 ⟨rfl, ho⟩
    have HW3 := hide ((unhide HW2).call ho)
    clear ho c3 HW2
    have x3_2 := (unhide HW3).cell (j := 2) (v := .slice xo xn xc) rfl
    go_wp2_with fail
    clear x3_2
    refine (unhide c4 _ _ _ (unhide HW3).wx _ _ _ (unhide HXA _ (unhide HW3).bel)).mono ?_
    rintro e w6 ⟨rfl, ho⟩
    have HW4 := hide ((unhide HW3).call ho)
    clear ho c4 HW3
    go_wp2_with fail
    refine (unhide c5 _ _ _ (unhide HW4).wx).mono ?_
    rintro e w7 ⟨rfl, ho⟩
    have HW5 := hide ((unhide HW4).call ho)
    clear ho c5 HW4
    have x5_3 := (unhide HW5).cell (j := 3) (v := .int .u32 p.ca) rfl
    go_wp2_with fail
    clear x5_3
    refine (unhide c6 _ _ _ (unhide HW5).wx).mono ?_
    rintro e w8 ⟨rfl, ho⟩
    have HW6 := hide ((unhide HW5).call ho)
    clear ho c6 HW5
    have x6_4 := (unhide HW6).cell (j := 4) (v := .int .u8 p.ch) rfl
    go_wp2_with fail
    clear x6_4
    refine (unhide c7 _ _ _ (unhide HW6).wx).mono ?_
    rintro e w9 ⟨rfl, ho⟩
    have HW7 := hide ((unhide HW6).call ho)
    clear ho c7 HW6
    have x7_5 := (unhide HW7).cell (j := 5) (v := .int .u16 p.st) rfl
    go_wp2_with fail
    clear x7_5
    refine (unhide c8 _ _ _ (unhide HW7).wx).mono ?_
    rintro e w10 ⟨rfl, ho⟩
    have HW8 := hide ((unhide HW7).call ho)
    clear ho c8 HW7
    have x8_3 := (unhide HW8).cell (j := 3) (v := .int .u32 p.ca) rfl
    go_wp2_with fail
    clear x8_3
    refine (unhide c9 _ _ _ (unhide HW8).wx).mono ?_
    rintro e w11 ⟨rfl, ho⟩
    have HW9 := hide ((unhide HW8).call ho)
    clear ho c9 HW8
    have x9_3 := (unhide HW9).cell (j := 3) (v := .int .u32 p.ca) rfl
    go_wp2_with fail
    clear x9_3
    refine same_world (nonceSize_any _ _) ?_
    go_wp2_with fail
    refine (unhide c10 _ _ _ (unhide HW9).wx).mono ?_
    rintro e w12 ⟨rfl, ho⟩
    have HW10 := hide ((unhide HW9).call ho)
    clear ho c10 HW9
    go_wp2_with fail
    refine (unhide c11 _ _ _ (unhide HW10).wx).mono ?_
    rintro e w13 ⟨rfl, ho⟩
    have HW11 := hide ((unhide HW10).call ho)
    clear ho c11 HW10
    have x11_2 := (unhide HW11).cell (j := 2) (v := .slice xo xn xc) rfl
    go_wp2_with fail
    clear x11_2
    refine (unhide c12 _ _ _ (unhide HW11).wx _ _ _ (unhide HXB _ (unhide HW11).bel)).mono ?_
    rintro e w14 ⟨rfl, ho⟩
    have HW12 := hide ((unhide HW11).call ho)
    clear ho c12 HW11
    go_wp2_with fail
    refine (unhide c13 _ _ _ (unhide HW12).wx).mono ?_
    rintro e w15 ⟨rfl, ho⟩
    have HW13 := hide ((unhide HW12).call ho)
    clear ho c13 HW12
    have x13_3 := (unhide HW13).cell (j := 3) (v := .int .u32 p.ca) rfl
    have x13_6 := (unhide HW13).cell (j := 6) (v := .string p.pl) rfl
    go_wp2_with fail
    clear x13_3 x13_6
    refine (unhide c14 _ _ _ (unhide HW13).wx).mono ?_
    rintro e w16 ⟨rfl, ho⟩
    have HW14 := hide ((unhide HW13).call ho)
    clear ho c14 HW13
    obtain ⟨ao, n, c0, k0, hm⟩ := (unhide HW14).wx.cell
    have HM := hide (hm.mono (Nat.le_of_lt (unhide HW14).lt))
    clear hm
    go_wp2_with fail
    go_ret2
    rw [unhide HRES]
    exact ⟨ao, n, c0, rfl, unhide HM, (unhide HW14).bel⟩

end Go.Proofs.Ytkijdkbkbelliaa
