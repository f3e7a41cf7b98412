/-
  GreetAgain walked: whatever is read as a login's packet can be written again, and is read as the same. Conditions: none (the statement lets slices of more than 2,000 bytes pass).
-/
import Derived.Test.YtcaggmomeaoaaaaGpLives
import Derived.Test.YtcaggmomeaoaaaaGpApSw
import Derived.Test.YtcaggmomeaoaaaaGpApCu
import Derived.Test.YtcaggmomeaoaaaaGpSwitch
import Derived.Test.YtcaggmomeaoaaaaGpAnswer
import Derived.Test.YtcaggmomeaoaaaaGpChange
import Derived.Test.YtcaggmomeaoaaaaGpGreet
import Derived.Test.YtcaggmomeaoaaaaGpSame
import Derived.Test.YtcaggmomeaoaaaaGpR
namespace Go.Proofs.Ytcaggmomeaoaaaa
open Go.RowKit
set_option linter.unusedVariables false
set_option linter.unusedSimpArgs false

set_option maxHeartbeats 8000000 in
set_option maxRecDepth 100000 in
theorem lawGrAgain (bo : Option Addr) (bn bc : Nat) (b : List Int) (c : Int) (w : World) (hb : Bs w bo bn bc b) :
    Calls Try.prog 5 #[.slice bo bn bc, .int .u32 c] w fun e w' => e = .returned (.bool true) ∧ Below w.heap.size w w' := by
  have cL := hide (lives_any w)
  have hle := hb.le
  have hmx := hb.max
  have HLN := hide hb.len
  have HBY := hide hb.byt
  have HB := hide hb
  clear hb
  by_cases h2k : bn ≤ 2000
  · have d1 : decide ((2000 : Int) < (bn : Int)) = false := by simp; omega
    have d1n : decide (2000 < bn) = false := by simp; omega
    go_enter Try.func5, Try.ntmps5
    go_wp2_with fail
    refine (unhide cL).mono ?_
    rintro e w1 ⟨rfl, b1⟩
    have BC := hide b1
    have HZ := hide (unhide BC).size
    clear b1 cL
    obtain ⟨R, hR⟩ : ∃ z, z = grR b := ⟨_, rfl⟩
    have cR := hide (readGreeting_any bo bn bc b _ ((unhide HB).later (unhide BC)) (by omega))
    rw [← hR] at cR
    have HR := hide hR
    clear hR
    go_wp2_with fail
    refine (unhide cR).mono ?_
    rintro e w2 ⟨xo, xn, xc, rfl, hx, b2⟩
    have b3 := below_alloc w2 (.cells #[.string R.1.ve, .int .u32 R.1.th, .slice xo xn xc, .int .u32 R.1.ca, .int .u8 R.1.ch, .int .u16 R.1.st, .string R.1.pl] 45)
    have B2 := hide ((unhide BC).trans (b2.mono (unhide BC).size))
    have B3 := hide ((unhide B2).trans (b3.mono (unhide B2).size))
    have HX := hide (hx.later b3)
    clear hx b2 b3 cR BC B2
    go_upto_if 33 with fail
    go_cut [] (fun wx => Below w.heap.size w wx)
    case first =>
      by_cases he : R.2 = 0
      · have he' : (R.2 == 0) = true := by simpa using he
        have ag := gr_again (unhide HBY) (by rw [← unhide HR]; exact he)
        rw [← unhide HR] at ag
        have hz := gr_sizes ag.2.1
        rw [← ag.1, unhide HLN] at hz
        have cA := hide (appendGreeting_any none 0 0 [] xo xn xc R.1 _ (Bs.nought _) (unhide HX) ag.2.2 (by simp only [List.length_nil]; omega))
        rw [if_pos ag.2.1, List.nil_append, ← ag.1] at cA
        clear ag he hz
        go_wp2_with fail
        refine (unhide cA).mono ?_
        rintro e w4 ⟨ao, an, ac, rfl, hm, b4⟩
        have B4 := hide ((unhide B3).trans (b4.mono (unhide B3).size))
        have cS := hide (same_self bo bn bc ao an ac b w4 hm.bs ((unhide HB).later (unhide B4)))
        clear hm b4 cA
        go_wp2_with fail
        refine same_world (unhide cS) ?_
        go_wp2_with fail
        go_meet
        exact unhide B4
      · have he' : (R.2 == 0) = false := by simpa using he
        clear he
        go_wp2_with fail
        go_meet
        exact unhide B3
    clear B3 HX HR
    have BC := hide hcut
    clear hcut
    obtain ⟨R, hR⟩ : ∃ z, z = anR b := ⟨_, rfl⟩
    have cR := hide (readAnswer_any bo bn bc b _ ((unhide HB).later (unhide BC)) (by omega))
    rw [← hR] at cR
    have HR := hide hR
    clear hR
    go_wp2_with fail
    refine (unhide cR).mono ?_
    rintro e w2 ⟨xo, xn, xc, yo, yn, yc, rfl, hx, hy, b2⟩
    have b3 := below_alloc w2 (.cells #[.int .u32 R.1.ca, .int .u32 R.1.mo, .int .u8 R.1.ch, .string R.1.us, .slice xo xn xc, .string R.1.sc, .string R.1.pl, .slice yo yn yc] 38)
    have B2 := hide ((unhide BC).trans (b2.mono (unhide BC).size))
    have B3 := hide ((unhide B2).trans (b3.mono (unhide B2).size))
    have HX := hide (hx.later b3)
    have HY := hide (hy.later b3)
    clear hx hy b2 b3 cR BC B2
    go_upto_if 53 with fail
    go_cut [] (fun wx => Below w.heap.size w wx)
    case first =>
      by_cases he : R.2 = 0
      · have he' : (R.2 == 0) = true := by simpa using he
        have ag := an_again (unhide HBY) (by rw [← unhide HR]; exact he)
        rw [← unhide HR] at ag
        have hz := an_sizes ag.2.1
        have hz2 := ag.1
        rw [unhide HLN] at hz2
        have cA := hide (appendAnswer_any none 0 0 [] xo xn xc yo yn yc R.1 _ (Bs.nought _) (unhide HX) (unhide HY) ag.2.2.1 (by simp only [List.length_nil]; omega))
        rw [if_pos ag.2.1, List.nil_append] at cA
        have BK := hide (an_back ag.2.1 ag.2.2.1 ag.2.2.2 (by omega))
        obtain ⟨LB, hLB⟩ : ∃ z, z = anB R.1 := ⟨_, rfl⟩
        rw [← hLB] at cA BK hz2
        clear ag he hz hLB
        go_wp2_with fail
        refine (unhide cA).mono ?_
        rintro e w4 ⟨ao, an, ac, rfl, hm, b4⟩
        have B4 := hide ((unhide B3).trans (b4.mono (unhide B3).size))
        have hln := hm.len
        have hq : w2.heap.size < w4.heap.size := by have := b4.size; simp at this; omega
        have q4 : w4.heap[w2.heap.size]? = some (.cells #[.int .u32 R.1.ca, .int .u32 R.1.mo, .int .u8 R.1.ch, .string R.1.us, .slice xo xn xc, .string R.1.sc, .string R.1.pl, .slice yo yn yc] 38 (0, 0)) := (b4.block _ (by simp)).trans (heap_alloc_new w2 _)
        have cB := hide (readAnswer_any ao an ac LB w4 hm.bs (by omega))
        rw [unhide BK] at cB
        have HX4 := hide ((unhide HX).later b4)
        have HY4 := hide ((unhide HY).later b4)
        have hale := hm.bs.le
        have hamx := hm.bs.max
        have Q4 := hide q4
        clear hm b4 cA q4
        go_wp2_with fail
        refine (unhide cB).mono ?_
        rintro e w5 ⟨uo, un, uc, vo, vn, vc, rfl, hu, hv, b5⟩
        have b6 := below_alloc w5 (.cells #[.int .u32 R.1.ca, .int .u32 R.1.mo, .int .u8 R.1.ch, .string R.1.us, .slice uo un uc, .string R.1.sc, .string R.1.pl, .slice vo vn vc] 38)
        have B6 := hide ((unhide B4).trans ((b5.mono (unhide B4).size).trans (b6.mono (Nat.le_trans (unhide B4).size b5.size))))
        have b56 := b5.trans (b6.mono b5.size)
        have q6 : (w5.alloc (.cells #[.int .u32 R.1.ca, .int .u32 R.1.mo, .int .u8 R.1.ch, .string R.1.us, .slice uo un uc, .string R.1.sc, .string R.1.pl, .slice vo vn vc] 38)).heap[w2.heap.size]? = some (.cells #[.int .u32 R.1.ca, .int .u32 R.1.mo, .int .u8 R.1.ch, .string R.1.us, .slice xo xn xc, .string R.1.sc, .string R.1.pl, .slice yo yn yc] 38 (0, 0)) := (b56.block _ hq).trans (unhide Q4)
        have t0 : (w5.alloc (.cells #[.int .u32 R.1.ca, .int .u32 R.1.mo, .int .u8 R.1.ch, .string R.1.us, .slice uo un uc, .string R.1.sc, .string R.1.pl, .slice vo vn vc] 38)).cell? ⟨w2.heap.size, 0, none⟩ = some (.int .u32 R.1.ca) := by rw [cell_of_row _ _ 0 _ _ _ q6]; rfl
        have t1 : (w5.alloc (.cells #[.int .u32 R.1.ca, .int .u32 R.1.mo, .int .u8 R.1.ch, .string R.1.us, .slice uo un uc, .string R.1.sc, .string R.1.pl, .slice vo vn vc] 38)).cell? ⟨w2.heap.size, 1, none⟩ = some (.int .u32 R.1.mo) := by rw [cell_of_row _ _ 1 _ _ _ q6]; rfl
        have t2 : (w5.alloc (.cells #[.int .u32 R.1.ca, .int .u32 R.1.mo, .int .u8 R.1.ch, .string R.1.us, .slice uo un uc, .string R.1.sc, .string R.1.pl, .slice vo vn vc] 38)).cell? ⟨w2.heap.size, 2, none⟩ = some (.int .u8 R.1.ch) := by rw [cell_of_row _ _ 2 _ _ _ q6]; rfl
        have t3 : (w5.alloc (.cells #[.int .u32 R.1.ca, .int .u32 R.1.mo, .int .u8 R.1.ch, .string R.1.us, .slice uo un uc, .string R.1.sc, .string R.1.pl, .slice vo vn vc] 38)).cell? ⟨w2.heap.size, 3, none⟩ = some (.string R.1.us) := by rw [cell_of_row _ _ 3 _ _ _ q6]; rfl
        have t4 : (w5.alloc (.cells #[.int .u32 R.1.ca, .int .u32 R.1.mo, .int .u8 R.1.ch, .string R.1.us, .slice uo un uc, .string R.1.sc, .string R.1.pl, .slice vo vn vc] 38)).cell? ⟨w2.heap.size, 4, none⟩ = some (.slice xo xn xc) := by rw [cell_of_row _ _ 4 _ _ _ q6]; rfl
        have t5 : (w5.alloc (.cells #[.int .u32 R.1.ca, .int .u32 R.1.mo, .int .u8 R.1.ch, .string R.1.us, .slice uo un uc, .string R.1.sc, .string R.1.pl, .slice vo vn vc] 38)).cell? ⟨w2.heap.size, 5, none⟩ = some (.string R.1.sc) := by rw [cell_of_row _ _ 5 _ _ _ q6]; rfl
        have t6 : (w5.alloc (.cells #[.int .u32 R.1.ca, .int .u32 R.1.mo, .int .u8 R.1.ch, .string R.1.us, .slice uo un uc, .string R.1.sc, .string R.1.pl, .slice vo vn vc] 38)).cell? ⟨w2.heap.size, 6, none⟩ = some (.string R.1.pl) := by rw [cell_of_row _ _ 6 _ _ _ q6]; rfl
        have t7 : (w5.alloc (.cells #[.int .u32 R.1.ca, .int .u32 R.1.mo, .int .u8 R.1.ch, .string R.1.us, .slice uo un uc, .string R.1.sc, .string R.1.pl, .slice vo vn vc] 38)).cell? ⟨w2.heap.size, 7, none⟩ = some (.slice yo yn yc) := by rw [cell_of_row _ _ 7 _ _ _ q6]; rfl
        have cS := hide (sameAn_eq xo xn xc uo un uc yo yn yc vo vn vc R.1 _ ((unhide HX4).later b56) (hu.later b6) ((unhide HY4).later b56) (hv.later b6))
        have dl : decide ((bn : Int) < (an : Int)) = false := by simp; omega
        have dn : decide (bn < an) = false := by simp; omega
        clear b5 b6 b56 hu hv q6 cB HX4 HY4
        go_wp2_with fail
        refine (unhide cS).mono ?_
        rintro e w7 ⟨rfl, b7⟩
        have B7 := hide ((unhide B6).trans (b7.mono (unhide B6).size))
        clear b7 cS
        go_wp2_with fail
        go_meet
        exact unhide B7
      · have he' : (R.2 == 0) = false := by simpa using he
        clear he
        go_wp2_with fail
        go_meet
        exact unhide B3
    clear B3 HX HY HR
    have BC := hide hcut
    clear hcut
    obtain ⟨R, hR⟩ : ∃ z, z = cuR b c := ⟨_, rfl⟩
    have cR := hide (readChange_any bo bn bc b c _ ((unhide HB).later (unhide BC)) (by omega))
    rw [← hR] at cR
    have HR := hide hR
    clear hR
    go_wp2_with fail
    refine (unhide cR).mono ?_
    rintro e w2 ⟨xo, xn, xc, yo, yn, yc, rfl, hx, hy, b2⟩
    have b3 := below_alloc w2 (.cells #[.string R.1.us, .slice xo xn xc, .string R.1.sc, .int .u16 R.1.ch, .string R.1.pl, .slice yo yn yc] 47)
    have B2 := hide ((unhide BC).trans (b2.mono (unhide BC).size))
    have B3 := hide ((unhide B2).trans (b3.mono (unhide B2).size))
    have HX := hide (hx.later b3)
    have HY := hide (hy.later b3)
    clear hx hy b2 b3 cR BC B2
    go_upto_if 90 with fail
    go_cut [] (fun wx => Below w.heap.size w wx)
    case first =>
      by_cases he : R.2 = 0
      · have he' : (R.2 == 0) = true := by simpa using he
        have ag := cu_again c (unhide HBY) (by rw [← unhide HR]; exact he)
        rw [← unhide HR] at ag
        have hz := cu_sizes ag.2.1
        have hz2 := ag.1
        rw [unhide HLN] at hz2
        have cA := hide (appendChange_any none 0 0 [] c xo xn xc yo yn yc R.1 _ (Bs.nought _) (unhide HX) (unhide HY) ag.2.2 (by simp only [List.length_nil]; omega))
        rw [if_pos ag.2.1, List.nil_append] at cA
        have BK := hide (cu_back c ag.2.1 ag.2.2 (by omega))
        obtain ⟨LB, hLB⟩ : ∃ z, z = cuB c R.1 := ⟨_, rfl⟩
        rw [← hLB] at cA BK hz2
        clear ag he hz hLB
        go_wp2_with fail
        refine (unhide cA).mono ?_
        rintro e w4 ⟨ao, an, ac, rfl, hm, b4⟩
        have B4 := hide ((unhide B3).trans (b4.mono (unhide B3).size))
        have hln := hm.len
        have hq : w2.heap.size < w4.heap.size := by have := b4.size; simp at this; omega
        have q4 : w4.heap[w2.heap.size]? = some (.cells #[.string R.1.us, .slice xo xn xc, .string R.1.sc, .int .u16 R.1.ch, .string R.1.pl, .slice yo yn yc] 47 (0, 0)) := (b4.block _ (by simp)).trans (heap_alloc_new w2 _)
        have cB := hide (readChange_any ao an ac LB c w4 hm.bs (by omega))
        rw [unhide BK] at cB
        have HX4 := hide ((unhide HX).later b4)
        have HY4 := hide ((unhide HY).later b4)
        have hale := hm.bs.le
        have hamx := hm.bs.max
        have Q4 := hide q4
        clear hm b4 cA q4
        go_wp2_with fail
        refine (unhide cB).mono ?_
        rintro e w5 ⟨uo, un, uc, vo, vn, vc, rfl, hu, hv, b5⟩
        have b6 := below_alloc w5 (.cells #[.string R.1.us, .slice uo un uc, .string R.1.sc, .int .u16 R.1.ch, .string R.1.pl, .slice vo vn vc] 47)
        have B6 := hide ((unhide B4).trans ((b5.mono (unhide B4).size).trans (b6.mono (Nat.le_trans (unhide B4).size b5.size))))
        have b56 := b5.trans (b6.mono b5.size)
        have q6 : (w5.alloc (.cells #[.string R.1.us, .slice uo un uc, .string R.1.sc, .int .u16 R.1.ch, .string R.1.pl, .slice vo vn vc] 47)).heap[w2.heap.size]? = some (.cells #[.string R.1.us, .slice xo xn xc, .string R.1.sc, .int .u16 R.1.ch, .string R.1.pl, .slice yo yn yc] 47 (0, 0)) := (b56.block _ hq).trans (unhide Q4)
        have t0 : (w5.alloc (.cells #[.string R.1.us, .slice uo un uc, .string R.1.sc, .int .u16 R.1.ch, .string R.1.pl, .slice vo vn vc] 47)).cell? ⟨w2.heap.size, 0, none⟩ = some (.string R.1.us) := by rw [cell_of_row _ _ 0 _ _ _ q6]; rfl
        have t1 : (w5.alloc (.cells #[.string R.1.us, .slice uo un uc, .string R.1.sc, .int .u16 R.1.ch, .string R.1.pl, .slice vo vn vc] 47)).cell? ⟨w2.heap.size, 1, none⟩ = some (.slice xo xn xc) := by rw [cell_of_row _ _ 1 _ _ _ q6]; rfl
        have t2 : (w5.alloc (.cells #[.string R.1.us, .slice uo un uc, .string R.1.sc, .int .u16 R.1.ch, .string R.1.pl, .slice vo vn vc] 47)).cell? ⟨w2.heap.size, 2, none⟩ = some (.string R.1.sc) := by rw [cell_of_row _ _ 2 _ _ _ q6]; rfl
        have t3 : (w5.alloc (.cells #[.string R.1.us, .slice uo un uc, .string R.1.sc, .int .u16 R.1.ch, .string R.1.pl, .slice vo vn vc] 47)).cell? ⟨w2.heap.size, 3, none⟩ = some (.int .u16 R.1.ch) := by rw [cell_of_row _ _ 3 _ _ _ q6]; rfl
        have t4 : (w5.alloc (.cells #[.string R.1.us, .slice uo un uc, .string R.1.sc, .int .u16 R.1.ch, .string R.1.pl, .slice vo vn vc] 47)).cell? ⟨w2.heap.size, 4, none⟩ = some (.string R.1.pl) := by rw [cell_of_row _ _ 4 _ _ _ q6]; rfl
        have t5 : (w5.alloc (.cells #[.string R.1.us, .slice uo un uc, .string R.1.sc, .int .u16 R.1.ch, .string R.1.pl, .slice vo vn vc] 47)).cell? ⟨w2.heap.size, 5, none⟩ = some (.slice yo yn yc) := by rw [cell_of_row _ _ 5 _ _ _ q6]; rfl
        have cS := hide (sameCu_eq xo xn xc uo un uc yo yn yc vo vn vc R.1 _ ((unhide HX4).later b56) (hu.later b6) ((unhide HY4).later b56) (hv.later b6))
        have dl : decide ((bn : Int) < (an : Int)) = false := by simp; omega
        have dn : decide (bn < an) = false := by simp; omega
        clear b5 b6 b56 hu hv q6 cB HX4 HY4
        go_wp2_with fail
        refine (unhide cS).mono ?_
        rintro e w7 ⟨rfl, b7⟩
        have B7 := hide ((unhide B6).trans (b7.mono (unhide B6).size))
        clear b7 cS
        go_wp2_with fail
        go_meet
        exact unhide B7
      · have he' : (R.2 == 0) = false := by simpa using he
        clear he
        go_wp2_with fail
        go_meet
        exact unhide B3
    clear B3 HX HY HR
    have BC := hide hcut
    clear hcut
    obtain ⟨R, hR⟩ : ∃ z, z = swR b := ⟨_, rfl⟩
    have cR := hide (readSwitch_any bo bn bc b _ ((unhide HB).later (unhide BC)) (by omega))
    rw [← hR] at cR
    have HR := hide hR
    clear hR
    go_wp2_with fail
    refine (unhide cR).mono ?_
    rintro e w2 ⟨xo, xn, xc, rfl, hx, b2⟩
    have b3 := below_alloc w2 (.cells #[.string R.1.pl, .slice xo xn xc] 28)
    have B2 := hide ((unhide BC).trans (b2.mono (unhide BC).size))
    have B3 := hide ((unhide B2).trans (b3.mono (unhide B2).size))
    have HX := hide (hx.later b3)
    clear hx b2 b3 cR BC B2
    by_cases he : R.2 = 0
    · have he' : (R.2 != 0) = false := by simpa using he
      have ag := sw_again (unhide HBY) (by rw [← unhide HR]; exact he)
      rw [← unhide HR] at ag
      have hz := sw_sizes (p := R.1)
      rw [← ag.1, unhide HLN] at hz
      have cA := hide (appendSwitch_any none 0 0 [] xo xn xc R.1 _ (Bs.nought _) (unhide HX) (by simp only [List.length_nil]; omega))
      rw [if_pos ag.2, List.nil_append, ← ag.1] at cA
      clear ag he hz
      go_wp2_with fail
      refine (unhide cA).mono ?_
      rintro e w4 ⟨ao, an, ac, rfl, hm, b4⟩
      have B4 := hide ((unhide B3).trans (b4.mono (unhide B3).size))
      have cS := hide (same_self bo bn bc ao an ac b w4 hm.bs ((unhide HB).later (unhide B4)))
      clear hm b4 cA
      go_wp2_with fail
      refine same_world (unhide cS) ?_
      go_wp2_with fail
      go_ret
      exact ⟨rfl, unhide B4⟩
    · have he' : (R.2 == 0) = false := by simpa using he
      have he2 : (R.2 != 0) = true := by simpa using he
      clear he
      go_wp2_with fail
      go_ret
      exact ⟨rfl, unhide B3⟩
  · have d1 : decide ((2000 : Int) < (bn : Int)) = true := by simp; omega
    have d1n : 2000 < bn := by omega
    go_enter Try.func5, Try.ntmps5
    go_wp2_with fail
    refine (unhide cL).mono ?_
    rintro e w1 ⟨rfl, b1⟩
    have BC := hide b1
    clear b1 cL
    go_wp2_with fail
    go_ret
    exact ⟨rfl, unhide BC⟩

end Go.Proofs.Ytcaggmomeaoaaaa
