/-
  What AppendChange returns: the bytes behind b in new memory, or an error. Conditions: the slices can be read; lengths below 2 to the 40.
-/
import Derived.Test.YtkijdkbkbelliaaGpBy
import Derived.Deep.CutRange
import Derived.Deep.DeepCutAuto
namespace Go.Proofs.Ytkijdkbkbelliaa
open Go.RowKit
set_option linter.unusedVariables false
set_option linter.unusedSimpArgs false

set_option maxHeartbeats 4000000 in
set_option maxRecDepth 100000 in
theorem appendChange_any (bo : Option Addr) (bn bc : Nat) (b : List Int) (c : Int) (xo : Option Addr) (xn xc : Nat) (yo : Option Addr) (yn yc : Nat) (p : Cu) (w : World) (hb : Bs w bo bn bc b) (hx : Bs w xo xn xc p.re) (hy : As w yo yn yc p.at') (hK : CuK p) (hsz : b.length + p.us.size + p.sc.size + p.pl.size + p.re.length + (aB p.at').length + 200 ≤ 1099511627776) :
    Calls Try.prog 51 #[.slice bo bn bc, .int .u32 c, .agg #[.string p.us, .slice xo xn xc, .string p.sc, .int .u16 p.ch, .string p.pl, .slice yo yn yc]] w fun e w' => OutP w (if cOk c p = true then some (b ++ cuB c p) else none) e w' := by
  have b0 := below_alloc w (.cells #[.string p.us, .slice xo xn xc, .string p.sc, .int .u16 p.ch, .string p.pl, .slice yo yn yc] 71)
  have z0 : (w.alloc (.cells #[.string p.us, .slice xo xn xc, .string p.sc, .int .u16 p.ch, .string p.pl, .slice yo yn yc] 71)).heap.size = w.heap.size + 1 := by simp
  have cM := hide (changeMayBe_any c xo xn xc yo yn yc p (w.alloc (.cells #[.string p.us, .slice xo xn xc, .string p.sc, .int .u16 p.ch, .string p.pl, .slice yo yn yc] 71)) hx.len ⟨hx.le, hx.max⟩ hy.len ⟨hy.le, hy.max⟩)
  have hbl := hb.len
  cases q : cOk c p
  · rw [q] at cM
    rw [if_neg (by simp)]
    have B0 := hide b0
    clear hb b0 hbl q hsz
    go_enter Try.func51, Try.ntmps51
    go_wp2_with fail
    refine (unhide cM).mono ?_
    rintro e w1 ⟨rfl, b1⟩
    have B1 := hide ((unhide B0).trans (b1.mono (by rw [z0]; omega)))
    clear b1 cM B0
    go_wp2_with fail
    go_ret2
    exact ⟨rfl, unhide B1⟩
  · rw [q] at cM
    rw [if_pos rfl]
    unfold cOk aOk at q
    simp only [Bool.and_eq_true] at q
    have h1 := q.2.1
    have h2 : p.re.length ≤ 255 := of_decide_eq_true q.2.2.1
    have hch0 := hK.ch.1
    have hch1 := hK.ch.2
    have h3 := mby_pln q.2.2.2.1
    have h4 := q.2.2.2.2.1
    have HX := hide hx
    have HY := hide hy
    clear q hx hy
    obtain ⟨l1, hl1⟩ : ∃ z, z = b ++ [17] := ⟨_, rfl⟩
    have m1 : l1.length ≤ b.length + 1 := by rw [hl1]; simp
    have c1 := hide (fun (B g : Nat) wx (hx : WX B g wx b) => wmark_wx B g wx b 17 (by omega) (by omega) (by omega) hx)
    rw [← hl1] at c1
    obtain ⟨l2, hl2⟩ : ∃ z, z = l1 ++ enB p.us := ⟨_, rfl⟩
    have m2 : l2.length ≤ l1.length + (p.us.size + 1) := by rw [hl2, List.length_append, enB_len]; exact Nat.le_refl _
    have c2 := hide (fun (B g : Nat) wx (hx : WX B g wx l1) => wended_wx B g wx l1 p.us h1 (by omega) hx)
    rw [← hl2] at c2
    obtain ⟨l3, hl3⟩ : ∃ z, z = l2 ++ ((p.re.length : Int) :: p.re) := ⟨_, rfl⟩
    have m3 : l3.length ≤ l2.length + (p.re.length + 1) := by rw [hl3]; simp
    have c3 := hide (fun (B g : Nat) wx (hx : WX B g wx l2) => fun fo fn fc hf hfo => wshort_wx B g wx l2 fo fn fc p.re h2 (by omega) hx hf hfo)
    rw [← hl3] at c3
    obtain ⟨l4, hl4⟩ : ∃ z, z = l3 ++ enB p.sc := ⟨_, rfl⟩
    have m4 : l4.length ≤ l3.length + (p.sc.size + 1) := by rw [hl4, List.length_append, enB_len]; exact Nat.le_refl _
    have c4 := hide (fun (B g : Nat) wx (hx : WX B g wx l3) => wended_wx B g wx l3 p.sc h3 (by omega) hx)
    rw [← hl4] at c4
    obtain ⟨l5, hl5⟩ : ∃ z, z = l4 ++ le p.ch 2 := ⟨_, rfl⟩
    have m5 : l5.length ≤ l4.length + 2 := by rw [hl5, List.length_append, le_length]; exact Nat.le_refl _
    have c5 := hide (fun (B g : Nat) wx (hx : WX B g wx l4) => wfixed_wx B g wx l4 p.ch 2 2 65536 rfl hK.ch.1 (by omega) (by omega) (by decide) hK.ch.2 (by omega) (by omega) hx)
    rw [← hl5] at c5
    obtain ⟨l6, hl6⟩ : ∃ z, z = l5 ++ plB c p.pl := ⟨_, rfl⟩
    have m6 : l6.length ≤ l5.length + (p.pl.size + 1) := by rw [hl6, List.length_append]; have := plB_len c p.pl; omega
    have c6 := hide (fun (B g : Nat) wx (hx : WX B g wx l5) => wplugin_wx B g wx l5 c p.pl h4 (by omega) hx)
    rw [← hl6] at c6
    obtain ⟨l7, hl7⟩ : ∃ z, z = l6 ++ atB c p.at' := ⟨_, rfl⟩
    have m7 : l7.length ≤ l6.length + ((aB p.at').length + 9) := by rw [hl7, List.length_append]; have := atB_len c p.at'; omega
    have c7 := hide (fun (B g : Nat) wx (hx : WX B g wx l6) => fun lo ln lc hA => wattrs_wx B g wx l6 c lo ln lc p.at' (by omega) hx hA)
    rw [← hl7] at c7
    have HRES := hide (show b ++ cuB c p = l7 by subst hl1 hl2 hl3 hl4 hl5 hl6 hl7; simp only [cuB, List.append_assoc])
    clear hl1 hl2 hl3 hl4 hl5 hl6 hl7
    generalize b ++ cuB c p = RR at *
    have HBB := hide hb
    have B0 := hide b0
    clear hb b0
    go_enter Try.func51, Try.ntmps51
    go_wp2_with fail
    refine (unhide cM).mono ?_
    rintro e w1 ⟨rfl, b1⟩
    have cN := hide (newWriter_wx bo bn bc b w1 ((unhide HBB).later ((unhide B0).trans (b1.mono (by rw [z0]; omega)))) (by omega))
    have BM := hide (b1.mono (show w.heap.size + 1 ≤ _ by rw [z0]; exact Nat.le_refl _))
    clear b1 cM
    go_wp2_with fail
    refine (unhide cN).mono ?_
    rintro e w2 ⟨g, rfl, ho⟩
    have HW0 := hide (Ww.start w 71 #[.string p.us, .slice xo xn xc, .string p.sc, .int .u16 p.ch, .string p.pl, .slice yo yn yc] (unhide BM) ho)
    clear ho cN BM
    go_wp2_with fail
    refine (unhide c1 _ _ _ (unhide HW0).wx).mono ?_
    rintro e w3 ⟨rfl, ho⟩
    have HW1 := hide ((unhide HW0).call ho)
    clear ho c1 HW0
    have x1_0 := (unhide HW1).cell (j := 0) (v := .string p.us) rfl
    go_wp2_with fail
    clear x1_0
    refine (unhide c2 _ _ _ (unhide HW1).wx).mono ?_
    rintro e w4 ⟨rfl, ho⟩
    have HW2 := hide ((unhide HW1).call ho)
    clear ho c2 HW1
    have x2_1 := (unhide HW2).cell (j := 1) (v := .slice xo xn xc) rfl
    go_wp2_with fail
    clear x2_1
    refine (unhide c3 _ _ _ (unhide HW2).wx _ _ _ ((unhide HX).later (unhide HW2).bel) ((unhide HX).under.imp id (fun u k hk => Nat.lt_trans (u k hk) (unhide HW2).lt))).mono ?_
    rintro e w5 ⟨rfl, ho⟩
    have HW3 := hide ((unhide HW2).call ho)
    clear ho c3 HW2
    have x3_2 := (unhide HW3).cell (j := 2) (v := .string p.sc) rfl
    go_wp2_with fail
    clear x3_2
    refine (unhide c4 _ _ _ (unhide HW3).wx).mono ?_
    rintro e w6 ⟨rfl, ho⟩
    have HW4 := hide ((unhide HW3).call ho)
    clear ho c4 HW3
    have x4_3 := (unhide HW4).cell (j := 3) (v := .int .u16 p.ch) rfl
    go_wp2_with fail
    clear x4_3
    refine (unhide c5 _ _ _ (unhide HW4).wx).mono ?_
    rintro e w7 ⟨rfl, ho⟩
    have HW5 := hide ((unhide HW4).call ho)
    clear ho c5 HW4
    have x5_4 := (unhide HW5).cell (j := 4) (v := .string p.pl) rfl
    go_wp2_with fail
    clear x5_4
    refine (unhide c6 _ _ _ (unhide HW5).wx).mono ?_
    rintro e w8 ⟨rfl, ho⟩
    have HW6 := hide ((unhide HW5).call ho)
    clear ho c6 HW5
    have x6_5 := (unhide HW6).cell (j := 5) (v := .slice yo yn yc) rfl
    go_wp2_with fail
    clear x6_5
    refine (unhide c7 _ _ _ (unhide HW6).wx _ _ _ ((unhide HY).later (unhide HW6).bel)).mono ?_
    rintro e w9 ⟨rfl, ho⟩
    have HW7 := hide ((unhide HW6).call ho)
    clear ho c7 HW6
    obtain ⟨ao, n, c0, k0, hm⟩ := (unhide HW7).wx.cell
    have HM := hide (hm.mono (Nat.le_of_lt (unhide HW7).lt))
    clear hm
    go_wp2_with fail
    go_ret2
    rw [unhide HRES]
    exact ⟨ao, n, c0, rfl, unhide HM, (unhide HW7).bel⟩

end Go.Proofs.Ytkijdkbkbelliaa
