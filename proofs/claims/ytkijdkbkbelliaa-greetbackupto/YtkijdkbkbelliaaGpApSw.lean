/-
  What AppendSwitch returns: the bytes behind b in new memory, or an error. Conditions: the slices can be read; lengths below 2 to the 40.
-/
import Derived.Test.YtkijdkbkbelliaaGpBy
import Derived.Deep.CutRange
import Derived.Deep.DeepCutAuto
namespace Go.Proofs.Ytkijdkbkbelliaa
open Go.RowKit
set_option linter.unusedVariables false
set_option linter.unusedSimpArgs false

set_option maxHeartbeats 4000000 in
set_option maxRecDepth 100000 in
theorem appendSwitch_any (bo : Option Addr) (bn bc : Nat) (b : List Int) (xo : Option Addr) (xn xc : Nat) (p : Sw) (w : World) (hb : Bs w bo bn bc b) (hx : Bs w xo xn xc p.no) (hsz : b.length + p.pl.size + p.no.length + 100 ≤ 1099511627776) :
    Calls Try.prog 48 #[.slice bo bn bc, .agg #[.string p.pl, .slice xo xn xc]] w fun e w' => OutP w (if sOk p = true then some (b ++ swB p) else none) e w' := by
  have b0 := below_alloc w (.cells #[.string p.pl, .slice xo xn xc] 69)
  have z0 : (w.alloc (.cells #[.string p.pl, .slice xo xn xc] 69)).heap.size = w.heap.size + 1 := by simp
  have cM := hide (switchMayBe_any xo xn xc p _ (hx.later b0))
  have hbl := hb.len
  cases q : sOk p
  · rw [q] at cM
    rw [if_neg (by simp)]
    have B0 := hide b0
    clear hb b0 hbl q hsz
    go_enter Try.func48, Try.ntmps48
    go_wp2_with fail
    refine (unhide cM).mono ?_
    rintro e w1 ⟨rfl, b1⟩
    have B1 := hide ((unhide B0).trans (b1.mono (by rw [z0]; omega)))
    clear b1 cM B0
    go_wp2_with fail
    go_ret2
    exact ⟨rfl, unhide B1⟩
  · rw [q] at cM
    rw [if_pos rfl]
    have HX := hide hx
    have h1 : pln p.pl = true := by unfold sOk at q; simp only [Bool.and_eq_true] at q; exact q.1
    clear q hx
    obtain ⟨l1, hl1⟩ : ∃ z, z = b ++ [254] := ⟨_, rfl⟩
    have m1 : l1.length ≤ b.length + 1 := by rw [hl1]; simp
    have c1 := hide (fun (B g : Nat) wx (hx : WX B g wx b) => wmark_wx B g wx b 254 (by omega) (by omega) (by omega) hx)
    rw [← hl1] at c1
    obtain ⟨l2, hl2⟩ : ∃ z, z = l1 ++ enB p.pl := ⟨_, rfl⟩
    have m2 : l2.length ≤ l1.length + (p.pl.size + 1) := by rw [hl2, List.length_append, enB_len]; exact Nat.le_refl _
    have c2 := hide (fun (B g : Nat) wx (hx : WX B g wx l1) => wended_wx B g wx l1 p.pl h1 (by omega) hx)
    rw [← hl2] at c2
    obtain ⟨l3, hl3⟩ : ∃ z, z = l2 ++ p.no := ⟨_, rfl⟩
    have m3 : l3.length ≤ l2.length + p.no.length := by rw [hl3]; simp
    have c3 := hide (fun (B g : Nat) wx (hx : WX B g wx l2) => fun fo fn fc hf => raw_wx B g wx l2 fo fn fc p.no (by omega) hx hf)
    rw [← hl3] at c3
    obtain ⟨l4, hl4⟩ : ∃ z, z = l3 ++ List.replicate 1 0 := ⟨_, rfl⟩
    have m4 : l4.length ≤ l3.length + 1 := by rw [hl4]; simp
    have c4 := hide (fun (B g : Nat) wx (hx : WX B g wx l3) => wzeros_wx B g wx l3 1 1 rfl (by omega) hx)
    rw [← hl4] at c4
    have HRES := hide (show b ++ swB p = l4 by subst hl1 hl2 hl3 hl4; simp only [swB, List.append_assoc])
    clear hl1 hl2 hl3 hl4
    generalize b ++ swB p = RR at *
    have HBB := hide hb
    have B0 := hide b0
    clear hb b0
    go_enter Try.func48, Try.ntmps48
    go_wp2_with fail
    refine (unhide cM).mono ?_
    rintro e w1 ⟨rfl, b1⟩
    have cN := hide (newWriter_wx bo bn bc b w1 ((unhide HBB).later ((unhide B0).trans (b1.mono (by rw [z0]; omega)))) (by omega))
    have BM := hide (b1.mono (show w.heap.size + 1 ≤ _ by rw [z0]; exact Nat.le_refl _))
    clear b1 cM
    go_wp2_with fail
    refine (unhide cN).mono ?_
    rintro e w2 ⟨g, rfl, ho⟩
    have HW0 := hide (Ww.start w 69 #[.string p.pl, .slice xo xn xc] (unhide BM) ho)
    clear ho cN BM
    go_wp2_with fail
    refine (unhide c1 _ _ _ (unhide HW0).wx).mono ?_
    rintro e w3 ⟨rfl, ho⟩
    have HW1 := hide ((unhide HW0).call ho)
    clear ho c1 HW0
    have x1_0 := (unhide HW1).cell (j := 0) (v := .string p.pl) rfl
    go_wp2_with fail
    clear x1_0
    refine (unhide c2 _ _ _ (unhide HW1).wx).mono ?_
    rintro e w4 ⟨rfl, ho⟩
    have HW2 := hide ((unhide HW1).call ho)
    clear ho c2 HW1
    have x2_1 := (unhide HW2).cell (j := 1) (v := .slice xo xn xc) rfl
    go_wp2_with fail
    clear x2_1
    refine (unhide c3 _ _ _ (unhide HW2).wx _ _ _ ((unhide HX).later (unhide HW2).bel)).mono ?_
    rintro e w5 ⟨rfl, ho⟩
    have HW3 := hide ((unhide HW2).call ho)
    clear ho c3 HW2
    go_wp2_with fail
    refine (unhide c4 _ _ _ (unhide HW3).wx).mono ?_
    rintro e w6 ⟨rfl, ho⟩
    have HW4 := hide ((unhide HW3).call ho)
    clear ho c4 HW3
    obtain ⟨ao, n, c0, k0, hm⟩ := (unhide HW4).wx.cell
    have HM := hide (hm.mono (Nat.le_of_lt (unhide HW4).lt))
    clear hm
    go_wp2_with fail
    go_ret2
    rw [unhide HRES]
    exact ⟨ao, n, c0, rfl, unhide HM, (unhide HW4).bel⟩

end Go.Proofs.Ytkijdkbkbelliaa
