/-
  What AppendAnswer returns: the bytes behind b in new memory, or an error. Conditions: the slices can be read; lengths below 2 to the 40.
-/
import Derived.Test.YtkijdkbkbelliaaGpBy
import Derived.Deep.CutRange
import Derived.Deep.DeepCutAuto
namespace Go.Proofs.Ytkijdkbkbelliaa
open Go.RowKit
set_option linter.unusedVariables false
set_option linter.unusedSimpArgs false

set_option maxHeartbeats 4000000 in
set_option maxRecDepth 100000 in
theorem appendAnswer_any (bo : Option Addr) (bn bc : Nat) (b : List Int) (xo : Option Addr) (xn xc : Nat) (yo : Option Addr) (yn yc : Nat) (p : An) (w : World) (hb : Bs w bo bn bc b) (hx : Bs w xo xn xc p.re) (hy : As w yo yn yc p.at') (hK : AnK p) (hsz : b.length + p.us.size + p.sc.size + p.pl.size + p.re.length + (aB p.at').length + 200 ≤ 1099511627776) :
    Calls Try.prog 45 #[.slice bo bn bc, .agg #[.int .u32 p.ca, .int .u32 p.mo, .int .u8 p.ch, .string p.us, .slice xo xn xc, .string p.sc, .string p.pl, .slice yo yn yc]] w fun e w' => OutP w (if aOk p = true then some (b ++ anB p) else none) e w' := by
  have b0 := below_alloc w (.cells #[.int .u32 p.ca, .int .u32 p.mo, .int .u8 p.ch, .string p.us, .slice xo xn xc, .string p.sc, .string p.pl, .slice yo yn yc] 67)
  have z0 : (w.alloc (.cells #[.int .u32 p.ca, .int .u32 p.mo, .int .u8 p.ch, .string p.us, .slice xo xn xc, .string p.sc, .string p.pl, .slice yo yn yc] 67)).heap.size = w.heap.size + 1 := by simp
  have cM := hide (answerMayBe_any xo xn xc yo yn yc p (w.alloc (.cells #[.int .u32 p.ca, .int .u32 p.mo, .int .u8 p.ch, .string p.us, .slice xo xn xc, .string p.sc, .string p.pl, .slice yo yn yc] 67)) hx.len ⟨hx.le, hx.max⟩ hy.len ⟨hy.le, hy.max⟩)
  have hbl := hb.len
  cases q : aOk p
  · rw [q] at cM
    rw [if_neg (by simp)]
    have B0 := hide b0
    clear hb b0 hbl q hsz
    go_enter Try.func45, Try.ntmps45
    go_wp2_with fail
    refine (unhide cM).mono ?_
    rintro e w1 ⟨rfl, b1⟩
    have B1 := hide ((unhide B0).trans (b1.mono (by rw [z0]; omega)))
    clear b1 cM B0
    go_wp2_with fail
    go_ret2
    exact ⟨rfl, unhide B1⟩
  · rw [q] at cM
    rw [if_pos rfl]
    unfold aOk at q
    simp only [Bool.and_eq_true] at q
    have h1 := q.2.1
    have h2 : p.re.length ≤ 255 := of_decide_eq_true q.2.2.1
    have h3 := q.2.2.2.1
    have h4 := q.2.2.2.2.1
    have hca0 := hK.ca.1
    have hca1 := hK.ca.2
    have hmo0 := hK.mo.1
    have hmo1 := hK.mo.2
    have hch0 := hK.ch.1
    have hch1 := hK.ch.2
    have hby := hx.byt
    have HX := hide hx
    have HY := hide hy
    clear q hx hy
    obtain ⟨l1, hl1⟩ : ∃ z, z = b ++ le p.ca 4 := ⟨_, rfl⟩
    have m1 : l1.length ≤ b.length + 4 := by rw [hl1, List.length_append, le_length]; exact Nat.le_refl _
    have c1 := hide (fun (B g : Nat) wx (hx : WX B g wx b) => wfixed_wx B g wx b p.ca 4 4 4294967296 rfl hK.ca.1 (by omega) (by omega) (by decide) hK.ca.2 (by omega) (by omega) hx)
    rw [← hl1] at c1
    obtain ⟨l2, hl2⟩ : ∃ z, z = l1 ++ le p.mo 4 := ⟨_, rfl⟩
    have m2 : l2.length ≤ l1.length + 4 := by rw [hl2, List.length_append, le_length]; exact Nat.le_refl _
    have c2 := hide (fun (B g : Nat) wx (hx : WX B g wx l1) => wfixed_wx B g wx l1 p.mo 4 4 4294967296 rfl hK.mo.1 (by omega) (by omega) (by decide) hK.mo.2 (by omega) (by omega) hx)
    rw [← hl2] at c2
    obtain ⟨l3, hl3⟩ : ∃ z, z = l2 ++ le p.ch 1 := ⟨_, rfl⟩
    have m3 : l3.length ≤ l2.length + 1 := by rw [hl3, List.length_append, le_length]; exact Nat.le_refl _
    have c3 := hide (fun (B g : Nat) wx (hx : WX B g wx l2) => wfixed_wx B g wx l2 p.ch 1 1 256 rfl hK.ch.1 (by omega) (by omega) (by decide) hK.ch.2 (by omega) (by omega) hx)
    rw [← hl3] at c3
    obtain ⟨l4, hl4⟩ : ∃ z, z = l3 ++ List.replicate 23 0 := ⟨_, rfl⟩
    have m4 : l4.length ≤ l3.length + 23 := by rw [hl4]; simp
    have c4 := hide (fun (B g : Nat) wx (hx : WX B g wx l3) => wzeros_wx B g wx l3 23 23 rfl (by omega) hx)
    rw [← hl4] at c4
    obtain ⟨l5, hl5⟩ : ∃ z, z = l4 ++ enB p.us := ⟨_, rfl⟩
    have m5 : l5.length ≤ l4.length + (p.us.size + 1) := by rw [hl5, List.length_append, enB_len]; exact Nat.le_refl _
    have c5 := hide (fun (B g : Nat) wx (hx : WX B g wx l4) => wended_wx B g wx l4 p.us h1 (by omega) hx)
    rw [← hl5] at c5
    obtain ⟨l6, hl6⟩ : ∃ z, z = l5 ++ rsB p.ca p.re := ⟨_, rfl⟩
    have m6 : l6.length ≤ l5.length + (p.re.length + 9) := by rw [hl6, List.length_append]; have := rsB_len p.ca p.re; omega
    have cT := hide (fun (B g : Nat) wx (hx : WX B g wx l5) => wtext_wx B g wx l5 (strOfNums p.re) (by rw [str_size p.re]; omega) hx)
    rw [str_size p.re, nums_str hby] at cT
    have cS := hide (fun (B g : Nat) wx (hx : WX B g wx l5) => fun fo fn fc hf hfo => wshort_wx B g wx l5 fo fn fc p.re h2 (by omega) hx hf hfo)
    have E1 := hide (fun u : has p.ca 2097152 = true => show l6 = l5 ++ (form (p.re.length : Int) ++ p.re) by rw [hl6]; unfold rsB; rw [if_pos u])
    have E2 := hide (fun u : ¬ has p.ca 2097152 = true => show l6 = l5 ++ ((p.re.length : Int) :: p.re) by rw [hl6]; unfold rsB; rw [if_neg u])
    obtain ⟨l7, hl7⟩ : ∃ z, z = l6 ++ scB p.ca p.sc := ⟨_, rfl⟩
    have m7 : l7.length ≤ l6.length + (p.sc.size + 1) := by rw [hl7, List.length_append]; have := scB_len p.ca p.sc; omega
    have cE := hide (fun (B g : Nat) wx (hx : WX B g wx l6) => wended_wx B g wx l6 p.sc (mby_pln h3) (by omega) hx)
    have E3 := hide (fun u : has p.ca 8 = true => show l7 = l6 ++ enB p.sc by rw [hl7]; unfold scB; rw [if_pos u])
    have E4 := hide (fun u : ¬ has p.ca 8 = true => show l7 = l6 by rw [hl7]; unfold scB; rw [if_neg u, List.append_nil])
    obtain ⟨l8, hl8⟩ : ∃ z, z = l7 ++ plB p.ca p.pl := ⟨_, rfl⟩
    have m8 : l8.length ≤ l7.length + (p.pl.size + 1) := by rw [hl8, List.length_append]; have := plB_len p.ca p.pl; omega
    have c8 := hide (fun (B g : Nat) wx (hx : WX B g wx l7) => wplugin_wx B g wx l7 p.ca p.pl h4 (by omega) hx)
    rw [← hl8] at c8
    obtain ⟨l9, hl9⟩ : ∃ z, z = l8 ++ atB p.ca p.at' := ⟨_, rfl⟩
    have m9 : l9.length ≤ l8.length + ((aB p.at').length + 9) := by rw [hl9, List.length_append]; have := atB_len p.ca p.at'; omega
    have c9 := hide (fun (B g : Nat) wx (hx : WX B g wx l8) => fun lo ln lc hA => wattrs_wx B g wx l8 p.ca lo ln lc p.at' (by omega) hx hA)
    rw [← hl9] at c9
    have HRES := hide (show b ++ anB p = l9 by subst hl1 hl2 hl3 hl4 hl5 hl6 hl7 hl8 hl9; simp only [anB, List.append_assoc])
    clear hl1 hl2 hl3 hl4 hl5 hl6 hl7 hl8 hl9
    generalize b ++ anB p = RR at *
    have HBB := hide hb
    have B0 := hide b0
    clear hb b0
    go_enter Try.func45, Try.ntmps45
    go_wp2_with fail
    refine (unhide cM).mono ?_
    rintro e w1 ⟨rfl, b1⟩
    have cN := hide (newWriter_wx bo bn bc b w1 ((unhide HBB).later ((unhide B0).trans (b1.mono (by rw [z0]; omega)))) (by omega))
    have BM := hide (b1.mono (show w.heap.size + 1 ≤ _ by rw [z0]; exact Nat.le_refl _))
    clear b1 cM
    go_wp2_with fail
    refine (unhide cN).mono ?_
    rintro e w2 ⟨g, rfl, ho⟩
    have HW0 := hide (Ww.start w 67 #[.int .u32 p.ca, .int .u32 p.mo, .int .u8 p.ch, .string p.us, .slice xo xn xc, .string p.sc, .string p.pl, .slice yo yn yc] (unhide BM) ho)
    clear ho cN BM
    have x0_0 := (unhide HW0).cell (j := 0) (v := .int .u32 p.ca) rfl
    go_wp2_with fail
    clear x0_0
    refine (unhide c1 _ _ _ (unhide HW0).wx).mono ?_
    rintro e w3 ⟨rfl, ho⟩
    have HW1 := hide ((unhide HW0).call ho)
    clear ho c1 HW0
    have x1_1 := (unhide HW1).cell (j := 1) (v := .int .u32 p.mo) rfl
    go_wp2_with fail
    clear x1_1
    refine (unhide c2 _ _ _ (unhide HW1).wx).mono ?_
    rintro e w4 ⟨rfl, ho⟩
    have HW2 := hide ((unhide HW1).call ho)
    clear ho c2 HW1
    have x2_2 := (unhide HW2).cell (j := 2) (v := .int .u8 p.ch) rfl
    go_wp2_with fail
    clear x2_2
    refine (unhide c3 _ _ _ (unhide HW2).wx).mono ?_
    rintro e w5 ⟨rfl, ho⟩
    have HW3 := hide ((unhide HW2).call ho)
    clear ho c3 HW2
    go_wp2_with fail
    refine (unhide c4 _ _ _ (unhide HW3).wx).mono ?_
    rintro e w6 ⟨rfl, ho⟩
    have HW4 := hide ((unhide HW3).call ho)
    clear ho c4 HW3
    have x4_3 := (unhide HW4).cell (j := 3) (v := .string p.us) rfl
    go_wp2_with fail
    clear x4_3
    refine (unhide c5 _ _ _ (unhide HW4).wx).mono ?_
    rintro e w7 ⟨rfl, ho⟩
    have HW5 := hide ((unhide HW4).call ho)
    clear ho c5 HW4
    have x5_0 := (unhide HW5).cell (j := 0) (v := .int .u32 p.ca) rfl
    go_upto_if 36 with fail
    clear x5_0
    go_cut [] (fun wx => Ww w 67 #[.int .u32 p.ca, .int .u32 p.mo, .int .u8 p.ch, .string p.us, .slice xo xn xc, .string p.sc, .string p.pl, .slice yo yn yc] w1.heap.size g wx l6)
    case first =>
      by_cases u : has p.ca 2097152 = true
      · have u1 : (bits .and .u32 p.ca 2097152 != 0) = true := by unfold has at u; rw [bne]; exact u
        have x4 := (unhide HW5).cell (j := 4) (v := .slice xo xn xc) rfl
        have hst := ((unhide HX).later (unhide HW5).bel).str
        rw [← unhide E1 u] at cT
        clear E1 E2 u
        go_wp2_with fail
        refine (unhide cT _ _ _ (unhide HW5).wx).mono ?_
        rintro e wQ ⟨rfl, ho⟩
        have HWQ := hide ((unhide HW5).call ho)
        clear ho
        go_wp2_with fail
        go_meet
        exact unhide HWQ
      · have u1 : (bits .and .u32 p.ca 2097152 != 0) = false := by unfold has at u; rw [bne]; simpa using u
        have x4 := (unhide HW5).cell (j := 4) (v := .slice xo xn xc) rfl
        rw [← unhide E2 u] at cS
        clear E1 E2 u
        go_wp2_with fail
        refine (unhide cS _ _ _ (unhide HW5).wx _ _ _ ((unhide HX).later (unhide HW5).bel) ((unhide HX).under.imp id (fun u k hk => Nat.lt_trans (u k hk) (unhide HW5).lt))).mono ?_
        rintro e wQ ⟨rfl, ho⟩
        have HWQ := hide ((unhide HW5).call ho)
        clear ho
        go_wp2_with fail
        go_meet
        exact unhide HWQ
    have HW6 := hide hcut
    clear hcut HW5 E1 E2 cT cS
    have x6_0 := (unhide HW6).cell (j := 0) (v := .int .u32 p.ca) rfl
    go_upto_if 49 with fail
    clear x6_0
    go_cut [] (fun wx => Ww w 67 #[.int .u32 p.ca, .int .u32 p.mo, .int .u8 p.ch, .string p.us, .slice xo xn xc, .string p.sc, .string p.pl, .slice yo yn yc] w1.heap.size g wx l7)
    case first =>
      by_cases u : has p.ca 8 = true
      · have u1 : (bits .and .u32 p.ca 8 != 0) = true := by unfold has at u; rw [bne]; exact u
        have x5 := (unhide HW6).cell (j := 5) (v := .string p.sc) rfl
        rw [← unhide E3 u] at cE
        clear E3 E4 u
        go_wp2_with fail
        refine (unhide cE _ _ _ (unhide HW6).wx).mono ?_
        rintro e wQ ⟨rfl, ho⟩
        have HWQ := hide ((unhide HW6).call ho)
        clear ho
        go_wp2_with fail
        go_meet
        exact unhide HWQ
      · have u1 : (bits .and .u32 p.ca 8 != 0) = false := by unfold has at u; rw [bne]; simpa using u
        have E5 := hide (unhide E4 u)
        clear E3 E4 u
        go_wp2_with fail
        go_meet
        rw [unhide E5]
        exact unhide HW6
    have HW7 := hide hcut
    clear hcut HW6 E3 E4 cE
    have x7_0 := (unhide HW7).cell (j := 0) (v := .int .u32 p.ca) rfl
    have x7_6 := (unhide HW7).cell (j := 6) (v := .string p.pl) rfl
    go_wp2_with fail
    clear x7_0 x7_6
    refine (unhide c8 _ _ _ (unhide HW7).wx).mono ?_
    rintro e w10 ⟨rfl, ho⟩
    have HW8 := hide ((unhide HW7).call ho)
    clear ho c8 HW7
    have x8_0 := (unhide HW8).cell (j := 0) (v := .int .u32 p.ca) rfl
    have x8_7 := (unhide HW8).cell (j := 7) (v := .slice yo yn yc) rfl
    go_wp2_with fail
    clear x8_0 x8_7
    refine (unhide c9 _ _ _ (unhide HW8).wx _ _ _ ((unhide HY).later (unhide HW8).bel)).mono ?_
    rintro e w11 ⟨rfl, ho⟩
    have HW9 := hide ((unhide HW8).call ho)
    clear ho c9 HW8
    obtain ⟨ao, n, c0, k0, hm⟩ := (unhide HW9).wx.cell
    have HM := hide (hm.mono (Nat.le_of_lt (unhide HW9).lt))
    clear hm
    go_wp2_with fail
    go_ret2
    rw [unhide HRES]
    exact ⟨ao, n, c0, rfl, unhide HM, (unhide HW9).bel⟩

end Go.Proofs.Ytkijdkbkbelliaa
