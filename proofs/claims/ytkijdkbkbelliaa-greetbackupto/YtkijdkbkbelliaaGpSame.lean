/-
  What the statements' helpers return where two things are the same: SameAttrs, sameGreeting, sameAnswer, sameChange, sameSwitch; and a number below another (Pick). They write nothing that was there. Conditions: the slices can be read.
-/
import Derived.Test.YtkijdkbkbelliaaGpPk
import Derived.BigQuiet
namespace Go.Proofs.Ytkijdkbkbelliaa
open Go.RowKit
set_option linter.unusedVariables false
set_option linter.unusedSimpArgs false

set_option maxHeartbeats 1000000 in
theorem pick_any (x : Int) (n : Int) (w : World) (hn : 0 < n) (hm : n ≤ 4611686018427387904) :
    Calls Try.prog 43 #[.int .i64 x, .int .i64 n] w fun e w' => (∃ r : Int, e = .returned (.int .i64 r) ∧ 0 ≤ r ∧ r < n) ∧ w' = w := by
  have h0 : (n == 0) = false := by rw [beq_eq_false_iff_ne]; omega
  have t1 : x.tmod n < n := Int.tmod_lt_of_pos x hn
  have t2 : -n < x.tmod n := Int.lt_tmod_of_pos x hn
  have hw : IntKind.i64.wrap (x.tmod n) = x.tmod n := by rw [IntKind.wrap_i64]; omega
  obtain ⟨R, hR⟩ : ∃ R, x.tmod n = R := ⟨_, rfl⟩
  rw [hR] at t1 t2 hw
  by_cases hr : R < 0
  · go_enter Try.func43, Try.ntmps43
    go_wp2_with fail
    go_ret
    exact ⟨⟨_, rfl, by omega, by omega⟩, rfl⟩
  · go_enter Try.func43, Try.ntmps43
    go_wp2_with fail
    go_ret
    exact ⟨⟨_, rfl, by omega, by omega⟩, rfl⟩

theorem same_self (bo : Option Addr) (m d : Nat) (ao : Option Addr) (n c : Nat) (l : List Int) (w : World) (h : Bs w ao n c l) (k : Bs w bo m d l) :
    Calls Try.prog 12 #[.slice ao n c, .slice bo m d] w fun e w' => e = .returned (.bool true) ∧ w' = w :=
  (sameBytes_any ao n c l bo m d l w h k).mono fun e w' ⟨h1, h2⟩ => ⟨by rw [h1, decide_eq_true rfl], h2⟩

set_option maxHeartbeats 1000000 in
set_option maxRecDepth 100000 in
theorem sameAttrs_eq (ao : Option Addr) (n c : Nat) (bo : Option Addr) (m d : Nat) (l : List At) (w : World) (h : As w ao n c l) (k : As w bo m d l) :
    Calls Try.prog 113 #[.slice ao n c, .slice bo m d] w fun e w' => e = .returned (.bool true) ∧ ∃ q, w' = w.drewN q := by
  have hl := h.len
  have kl := k.len
  have hle := h.le
  have kle := k.le
  have hmx := h.max
  have kmx := k.max
  have H := hide h
  have K := hide k
  have hnm : m = n := by omega
  subst hnm
  have HL := hide hl
  clear h k hl kl
  go_enter Try.func113, Try.ntmps113
  go_wp2_with fail
  go_loopw [5] (fun i wr => ∃ (j q : Nat), j ≤ m ∧ i = .int .i64 (j : Int) ∧ wr = w.drewN q) (fun i _ => m - (intOf i).toNat)
  case atStart => exact ⟨0, 0, by omega, rfl, rfl⟩
  case round =>
    obtain ⟨j, q, hj, rfl, rfl⟩ := hrel
    by_cases hlt : j < m
    · obtain ⟨p, hp⟩ : ∃ p, l[j]? = some p := ⟨l[j]'(by rw [unhide HL]; exact hlt), List.getElem?_eq_getElem _⟩
      obtain ⟨b0, o0, i0, k0, k1⟩ := (unhide H).idx hp (j : Int) rfl
      obtain ⟨b1, o1, i1, k2, k3⟩ := (unhide K).idx hp (j : Int) rfl
      generalize p.n = y0 at *
      generalize p.v = y1 at *
      clear hp
      go_wp2_with fail
      go_quiet (fail)
      go_wp2_with fail
      go_roundw
      case rel => exact ⟨j + 1, _, by omega, by go_num, (by first | rfl | exact World.drewN_drewN _ _ _)⟩
      case measure => simp [intOf]; omega
    · have hjn : j = m := by omega
      subst hjn
      go_wp2_with fail
      go_ret
      exact ⟨rfl, _, rfl⟩

set_option maxHeartbeats 1000000 in
set_option maxRecDepth 100000 in
theorem sameSw_eq (xo : Option Addr) (xn xc : Nat) (yo : Option Addr) (yn yc : Nat) (p : Sw) (w : World) (hx : Bs w xo xn xc p.no) (hy : Bs w yo yn yc p.no) :
    Calls Try.prog 50 #[.agg #[.string p.pl, .slice xo xn xc], .agg #[.string p.pl, .slice yo yn yc]] w fun e w' => e = .returned (.bool true) ∧ Below w.heap.size w w' := by
  have b0 : Below w.heap.size w ((w.alloc (.cells #[.string p.pl, .slice xo xn xc] 69)).alloc (.cells #[.string p.pl, .slice yo yn yc] 69)) := (below_alloc w _).trans ((below_alloc _ _).mono (by simp))
  have c1 := hide (same_self yo yn yc xo xn xc _ _ (hx.later b0) (hy.later b0))
  have B0 := hide b0
  clear b0 hx hy
  go_enter Try.func50, Try.ntmps50
  go_wp2_with (go_at_call 12; refine same_world (unhide c1) ?_)
  go_ret
  exact ⟨rfl, unhide B0⟩

set_option maxHeartbeats 1000000 in
set_option maxRecDepth 100000 in
theorem sameGr_eq (xo : Option Addr) (xn xc : Nat) (yo : Option Addr) (yn yc : Nat) (p : Gr) (w : World) (hx : Bs w xo xn xc p.no) (hy : Bs w yo yn yc p.no) :
    Calls Try.prog 44 #[.agg #[.string p.ve, .int .u32 p.th, .slice xo xn xc, .int .u32 p.ca, .int .u8 p.ch, .int .u16 p.st, .string p.pl], .agg #[.string p.ve, .int .u32 p.th, .slice yo yn yc, .int .u32 p.ca, .int .u8 p.ch, .int .u16 p.st, .string p.pl]] w fun e w' => e = .returned (.bool true) ∧ Below w.heap.size w w' := by
  have b0 : Below w.heap.size w ((w.alloc (.cells #[.string p.ve, .int .u32 p.th, .slice xo xn xc, .int .u32 p.ca, .int .u8 p.ch, .int .u16 p.st, .string p.pl] 64)).alloc (.cells #[.string p.ve, .int .u32 p.th, .slice yo yn yc, .int .u32 p.ca, .int .u8 p.ch, .int .u16 p.st, .string p.pl] 64)) := (below_alloc w _).trans ((below_alloc _ _).mono (by simp))
  have c1 := hide (same_self yo yn yc xo xn xc _ _ (hx.later b0) (hy.later b0))
  have B0 := hide b0
  clear b0 hx hy
  go_enter Try.func44, Try.ntmps44
  go_wp2_with (go_at_call 12; refine same_world (unhide c1) ?_)
  go_ret
  exact ⟨rfl, unhide B0⟩

set_option maxHeartbeats 1000000 in
set_option maxRecDepth 100000 in
theorem sameAn_eq (xo : Option Addr) (xn xc : Nat) (yo : Option Addr) (yn yc : Nat) (zo : Option Addr) (zn zc : Nat) (uo : Option Addr) (un uc : Nat) (p : An) (w : World) (hx : Bs w xo xn xc p.re) (hy : Bs w yo yn yc p.re) (hz : As w zo zn zc p.at') (hu : As w uo un uc p.at') :
    Calls Try.prog 47 #[.agg #[.int .u32 p.ca, .int .u32 p.mo, .int .u8 p.ch, .string p.us, .slice xo xn xc, .string p.sc, .string p.pl, .slice zo zn zc], .agg #[.int .u32 p.ca, .int .u32 p.mo, .int .u8 p.ch, .string p.us, .slice yo yn yc, .string p.sc, .string p.pl, .slice uo un uc]] w fun e w' => e = .returned (.bool true) ∧ Below w.heap.size w w' := by
  have b0 : Below w.heap.size w ((w.alloc (.cells #[.int .u32 p.ca, .int .u32 p.mo, .int .u8 p.ch, .string p.us, .slice xo xn xc, .string p.sc, .string p.pl, .slice zo zn zc] 67)).alloc (.cells #[.int .u32 p.ca, .int .u32 p.mo, .int .u8 p.ch, .string p.us, .slice yo yn yc, .string p.sc, .string p.pl, .slice uo un uc] 67)) := (below_alloc w _).trans ((below_alloc _ _).mono (by simp))
  have c1 := hide (same_self yo yn yc xo xn xc _ _ (hx.later b0) (hy.later b0))
  have c2 := hide (sameAttrs_eq zo zn zc uo un uc _ _ (hz.later b0) (hu.later b0))
  have B0 := hide b0
  clear b0 hx hy hz hu
  go_enter Try.func47, Try.ntmps47
  go_wp2_with (first | (go_at_call 12; refine same_world (unhide c1) ?_) | (go_at_call 113; refine (unhide c2).mono ?_; rintro e w2 ⟨rfl, q2, hw2⟩; have B2 := hide (show Below w.heap.size w w2 by rw [hw2]; exact (unhide B0).trans ⟨rfl, rfl, rfl, Nat.le_refl _, fun _ _ => rfl⟩); clear hw2))
  go_ret
  exact ⟨rfl, unhide B2⟩

set_option maxHeartbeats 1000000 in
set_option maxRecDepth 100000 in
theorem sameCu_eq (xo : Option Addr) (xn xc : Nat) (yo : Option Addr) (yn yc : Nat) (zo : Option Addr) (zn zc : Nat) (uo : Option Addr) (un uc : Nat) (p : Cu) (w : World) (hx : Bs w xo xn xc p.re) (hy : Bs w yo yn yc p.re) (hz : As w zo zn zc p.at') (hu : As w uo un uc p.at') :
    Calls Try.prog 53 #[.agg #[.string p.us, .slice xo xn xc, .string p.sc, .int .u16 p.ch, .string p.pl, .slice zo zn zc], .agg #[.string p.us, .slice yo yn yc, .string p.sc, .int .u16 p.ch, .string p.pl, .slice uo un uc]] w fun e w' => e = .returned (.bool true) ∧ Below w.heap.size w w' := by
  have b0 : Below w.heap.size w ((w.alloc (.cells #[.string p.us, .slice xo xn xc, .string p.sc, .int .u16 p.ch, .string p.pl, .slice zo zn zc] 71)).alloc (.cells #[.string p.us, .slice yo yn yc, .string p.sc, .int .u16 p.ch, .string p.pl, .slice uo un uc] 71)) := (below_alloc w _).trans ((below_alloc _ _).mono (by simp))
  have c1 := hide (same_self yo yn yc xo xn xc _ _ (hx.later b0) (hy.later b0))
  have c2 := hide (sameAttrs_eq zo zn zc uo un uc _ _ (hz.later b0) (hu.later b0))
  have B0 := hide b0
  clear b0 hx hy hz hu
  go_enter Try.func53, Try.ntmps53
  go_wp2_with (first | (go_at_call 12; refine same_world (unhide c1) ?_) | (go_at_call 113; refine (unhide c2).mono ?_; rintro e w2 ⟨rfl, q2, hw2⟩; have B2 := hide (show Below w.heap.size w w2 by rw [hw2]; exact (unhide B0).trans ⟨rfl, rfl, rfl, Nat.le_refl _, fun _ _ => rfl⟩); clear hw2))
  go_ret
  exact ⟨rfl, unhide B2⟩

end Go.Proofs.Ytkijdkbkbelliaa
