/-
  Whether a packet of logins may be: what greetingMayBe, answerMayBe, switchMayBe and changeMayBe return. They write nothing that was there. Conditions: the slices can be read.
-/
import Derived.Test.YtkijdkbkbelliaaGpWx
namespace Go.Proofs.Ytkijdkbkbelliaa
open Go.RowKit
set_option linter.unusedVariables false
set_option linter.unusedSimpArgs false

/-- May a greeting, an answer, a switch, a change of user be? -/
def gOk (g : Gr) : Bool := cor g.ca && (pln g.ve && ((nck g.no == 0) && mby g.ca 524288 g.pl))
def aOk (a : An) : Bool := cor a.ca && (pln a.us && (decide (a.re.length ≤ 255) && (mby a.ca 8 a.sc && (mby a.ca 524288 a.pl && (if has a.ca 1048576 = true then decide (a.at'.length ≤ 64) else decide (a.at'.length = 0))))))
def sOk (s : Sw) : Bool := pln s.pl && (nck s.no == 0)
def cOk (c : Int) (u : Cu) : Bool := aOk ⟨c, 0, 0, u.us, u.re, u.sc, u.pl, u.at'⟩

set_option maxHeartbeats 1000000 in
set_option maxRecDepth 100000 in
theorem switchMayBe_any (xo : Option Addr) (xn xc : Nat) (p : Sw) (w : World) (h : Bs w xo xn xc p.no) :
    Calls Try.prog 114 #[.agg #[.string p.pl, .slice xo xn xc]] w fun e w' => e = .returned (.bool (sOk p)) ∧ Below w.heap.size w w' := by
  have b0 := below_alloc w (.cells #[.string p.pl, .slice xo xn xc] 69)
  have c1 := hide (fun wx => hasNoZero_any p.pl wx)
  have c2 := hide (check_any xo xn xc p.no _ (h.later b0))
  have B0 := hide b0
  unfold sOk
  generalize pln p.pl = b1 at *
  generalize nck p.no = k2 at *
  clear h b0
  cases b1
  · go_enter Try.func114, Try.ntmps114
    go_wp2_with (go_at_call 129; refine same_world (unhide c1 _) ?_)
    go_ret
    exact ⟨rfl, unhide B0⟩
  · go_enter Try.func114, Try.ntmps114
    go_wp2_with (first | (go_at_call 129; refine same_world (unhide c1 _) ?_) | (go_at_call 130; refine same_world (unhide c2) ?_))
    go_ret
    exact ⟨rfl, unhide B0⟩

set_option maxHeartbeats 1000000 in
set_option maxRecDepth 100000 in
theorem greetingMayBe_any (xo : Option Addr) (xn xc : Nat) (p : Gr) (w : World) (h : Bs w xo xn xc p.no) :
    Calls Try.prog 87 #[.agg #[.string p.ve, .int .u32 p.th, .slice xo xn xc, .int .u32 p.ca, .int .u8 p.ch, .int .u16 p.st, .string p.pl]] w fun e w' => e = .returned (.bool (gOk p)) ∧ Below w.heap.size w w' := by
  have b0 := below_alloc w (.cells #[.string p.ve, .int .u32 p.th, .slice xo xn xc, .int .u32 p.ca, .int .u8 p.ch, .int .u16 p.st, .string p.pl] 64)
  have c1 := hide (fun wx => hasCore_any p.ca wx)
  have c2 := hide (fun wx => hasNoZero_any p.ve wx)
  have c3 := hide (check_any xo xn xc p.no _ (h.later b0))
  have c4 := hide (fun wx => mayBeBy_any p.ca 524288 p.pl wx)
  have B0 := hide b0
  unfold gOk
  generalize cor p.ca = b1 at *
  generalize pln p.ve = b2 at *
  generalize nck p.no = k3 at *
  generalize mby p.ca 524288 p.pl = b4 at *
  clear h b0
  cases b1
  · go_enter Try.func87, Try.ntmps87
    go_wp2_with (go_at_call 102; refine same_world (unhide c1 _) ?_)
    go_ret
    exact ⟨rfl, unhide B0⟩
  · cases b2
    · go_enter Try.func87, Try.ntmps87
      go_wp2_with (first | (go_at_call 102; refine same_world (unhide c1 _) ?_) | (go_at_call 129; refine same_world (unhide c2 _) ?_))
      go_ret
      exact ⟨rfl, unhide B0⟩
    · cases q : (k3 == 0)
      · go_enter Try.func87, Try.ntmps87
        go_wp2_with (first | (go_at_call 102; refine same_world (unhide c1 _) ?_) | (go_at_call 129; refine same_world (unhide c2 _) ?_) | (go_at_call 130; refine same_world (unhide c3) ?_))
        go_ret
        exact ⟨rfl, unhide B0⟩
      · go_enter Try.func87, Try.ntmps87
        go_wp2_with (first | (go_at_call 102; refine same_world (unhide c1 _) ?_) | (go_at_call 129; refine same_world (unhide c2 _) ?_) | (go_at_call 130; refine same_world (unhide c3) ?_) | (go_at_call 116; refine same_world (unhide c4 _) ?_))
        go_ret
        exact ⟨rfl, unhide B0⟩

set_option maxHeartbeats 2000000 in
set_option maxRecDepth 100000 in
theorem answerMayBe_any (xo : Option Addr) (xn xc : Nat) (yo : Option Addr) (yn yc : Nat) (p : An) (w : World) (h : p.re.length = xn) (hx : xn ≤ xc ∧ xc ≤ 9223372036854775807) (h2 : p.at'.length = yn) (hy : yn ≤ yc ∧ yc ≤ 9223372036854775807) :
    Calls Try.prog 106 #[.agg #[.int .u32 p.ca, .int .u32 p.mo, .int .u8 p.ch, .string p.us, .slice xo xn xc, .string p.sc, .string p.pl, .slice yo yn yc]] w fun e w' => e = .returned (.bool (aOk p)) ∧ Below w.heap.size w w' := by
  have b0 := below_alloc w (.cells #[.int .u32 p.ca, .int .u32 p.mo, .int .u8 p.ch, .string p.us, .slice xo xn xc, .string p.sc, .string p.pl, .slice yo yn yc] 67)
  have c1 := hide (fun wx => hasCore_any p.ca wx)
  have c2 := hide (fun wx => hasNoZero_any p.us wx)
  have c4 := hide (fun wx => mayBeBy_any p.ca 8 p.sc wx)
  have c5 := hide (fun wx => mayBeBy_any p.ca 524288 p.pl wx)
  have B0 := hide b0
  obtain ⟨R, hR⟩ : ∃ R, R = aOk p := ⟨_, rfl⟩
  rw [← hR]
  have HR := hide hR
  unfold aOk at HR
  rw [h, h2] at HR
  have ht := hx.1
  have hu := hx.2
  have hv := hy.1
  have hw' := hy.2
  clear hR h h2 b0 hx hy
  generalize cor p.ca = b1 at *
  generalize pln p.us = b2 at *
  generalize mby p.ca 8 p.sc = b4 at *
  generalize mby p.ca 524288 p.pl = b5 at *
  cases b1
  · have E := hide (show R = false from unhide HR)
    clear HR
    go_enter Try.func106, Try.ntmps106
    go_wp2_with (go_at_call 102; refine same_world (unhide c1 _) ?_)
    go_ret
    exact ⟨by rw [unhide E]; rfl, unhide B0⟩
  · cases b2
    · have E := hide (show R = false from unhide HR)
      clear HR
      go_enter Try.func106, Try.ntmps106
      go_wp2_with (first | (go_at_call 102; refine same_world (unhide c1 _) ?_) | (go_at_call 129; refine same_world (unhide c2 _) ?_))
      go_ret
      exact ⟨by rw [unhide E]; rfl, unhide B0⟩
    · by_cases h255 : xn ≤ 255
      · have d1 : decide ((255 : Int) < (xn : Int)) = false := by simp; omega
        have d1n : decide (255 < xn) = false := by simp; omega
        cases b4
        · have E := hide (show R = false by rw [unhide HR, decide_eq_true h255]; rfl)
          clear HR h255
          go_enter Try.func106, Try.ntmps106
          go_wp2_with (first | (go_at_call 102; refine same_world (unhide c1 _) ?_) | (go_at_call 129; refine same_world (unhide c2 _) ?_) | (go_at_call 116; refine same_world (unhide c4 _) ?_))
          go_ret
          exact ⟨by rw [unhide E]; rfl, unhide B0⟩
        · cases b5
          · have E := hide (show R = false by rw [unhide HR, decide_eq_true h255]; rfl)
            clear HR h255
            go_enter Try.func106, Try.ntmps106
            go_wp2_with (first | (go_at_call 102; refine same_world (unhide c1 _) ?_) | (go_at_call 129; refine same_world (unhide c2 _) ?_) | (go_at_call 116; with_reducible show Calls _ _ #[_, .int .u32 8, _] _ _; refine same_world (unhide c4 _) ?_) | (go_at_call 116; refine same_world (unhide c5 _) ?_))
            go_ret
            exact ⟨by rw [unhide E]; rfl, unhide B0⟩
          · cases q : (bits .and .u32 p.ca 1048576 == 0)
            · have E := hide (show R = decide (yn ≤ 64) by rw [unhide HR, decide_eq_true h255]; unfold has; rw [q]; rfl)
              obtain ⟨z, hz⟩ : ∃ z, decide ((yn : Int) ≤ 64) = z := ⟨_, rfl⟩
              have hzn : decide (yn ≤ 64) = z := by rw [← hz, decide_eq_decide]; omega
              clear HR h255
              go_enter Try.func106, Try.ntmps106
              go_wp2_with (first | (go_at_call 102; refine same_world (unhide c1 _) ?_) | (go_at_call 129; refine same_world (unhide c2 _) ?_) | (go_at_call 116; with_reducible show Calls _ _ #[_, .int .u32 8, _] _ _; refine same_world (unhide c4 _) ?_) | (go_at_call 116; refine same_world (unhide c5 _) ?_))
              go_ret
              exact ⟨by rw [unhide E, hzn]; rfl, unhide B0⟩
            · have E := hide (show R = decide (yn = 0) by rw [unhide HR, decide_eq_true h255]; unfold has; rw [q]; rfl)
              obtain ⟨z, hz⟩ : ∃ z, ((yn : Int) == 0) = z := ⟨_, rfl⟩
              have hzn : decide (yn = 0) = z := by rw [← hz, Bool.eq_iff_iff]; simp
              clear HR h255
              go_enter Try.func106, Try.ntmps106
              go_wp2_with (first | (go_at_call 102; refine same_world (unhide c1 _) ?_) | (go_at_call 129; refine same_world (unhide c2 _) ?_) | (go_at_call 116; with_reducible show Calls _ _ #[_, .int .u32 8, _] _ _; refine same_world (unhide c4 _) ?_) | (go_at_call 116; refine same_world (unhide c5 _) ?_))
              go_ret
              exact ⟨by rw [unhide E, hzn]; rfl, unhide B0⟩
      · have d1 : decide ((255 : Int) < (xn : Int)) = true := by simp; omega
        have d1n : 255 < xn := by omega
        have E := hide (show R = false by rw [unhide HR, decide_eq_false h255]; rfl)
        clear HR h255
        go_enter Try.func106, Try.ntmps106
        go_wp2_with (first | (go_at_call 102; refine same_world (unhide c1 _) ?_) | (go_at_call 129; refine same_world (unhide c2 _) ?_))
        go_ret
        exact ⟨by rw [unhide E]; rfl, unhide B0⟩

set_option maxHeartbeats 1000000 in
set_option maxRecDepth 100000 in
theorem changeMayBe_any (c : Int) (xo : Option Addr) (xn xc : Nat) (yo : Option Addr) (yn yc : Nat) (p : Cu) (w : World) (h : p.re.length = xn) (hx : xn ≤ xc ∧ xc ≤ 9223372036854775807) (h2 : p.at'.length = yn) (hy : yn ≤ yc ∧ yc ≤ 9223372036854775807) :
    Calls Try.prog 115 #[.int .u32 c, .agg #[.string p.us, .slice xo xn xc, .string p.sc, .int .u16 p.ch, .string p.pl, .slice yo yn yc]] w fun e w' => e = .returned (.bool (cOk c p)) ∧ Below w.heap.size w w' := by
  have b0 := below_alloc w (.cells #[.string p.us, .slice xo xn xc, .string p.sc, .int .u16 p.ch, .string p.pl, .slice yo yn yc] 71)
  have c1 := hide (fun wx => answerMayBe_any xo xn xc yo yn yc ⟨c, 0, 0, p.us, p.re, p.sc, p.pl, p.at'⟩ wx h hx h2 hy)
  have B0 := hide b0
  unfold cOk
  generalize aOk ⟨c, 0, 0, p.us, p.re, p.sc, p.pl, p.at'⟩ = R at *
  clear h hx h2 hy b0
  go_enter Try.func115, Try.ntmps115
  go_wp2_with fail
  refine (unhide c1 _).mono ?_
  rintro e w1 ⟨rfl, b1⟩
  have B1 := hide ((unhide B0).trans (b1.mono (by simp)))
  clear b1
  go_wp2_with fail
  go_ret
  exact ⟨rfl, unhide B1⟩

end Go.Proofs.Ytkijdkbkbelliaa
