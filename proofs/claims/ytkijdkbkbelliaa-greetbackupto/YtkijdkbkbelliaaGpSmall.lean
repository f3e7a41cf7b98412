/-
  What small of the statements returns: some truth value. It writes nothing that was there. Conditions: the slices can be read; lengths below 2 to the 40.
-/
import Derived.Test.YtkijdkbkbelliaaGpPk
import Derived.BigQuiet
namespace Go.Proofs.Ytkijdkbkbelliaa
open Go.RowKit
set_option linter.unusedVariables false
set_option linter.unusedSimpArgs false

/-- Some truth value. -/
def OutZ (w : World) (e : Ending) (w' : World) : Prop := ∃ z, e = .returned (.bool z) ∧ Below w.heap.size w w'

set_option maxHeartbeats 4000000 in
set_option maxRecDepth 100000 in
theorem small_any (go : Option Addr) (gn gc : Nat) (G : Gr) (ro : Option Addr) (rn rc : Nat) (tt : Option Addr) (tn tc : Nat) (A : An) (so : Option Addr) (sn sc : Nat) (S : Sw) (uo : Option Addr) (un uc : Nat) (vo : Option Addr) (vn vc : Nat) (U : Cu) (C : Int) (w : World) (hG : Bs w go gn gc G.no) (hA : Bs w ro rn rc A.re) (hT : As w tt tn tc A.at') (hS : Bs w so sn sc S.no) (hU : Bs w uo un uc U.re) (hV : As w vo vn vc U.at')
    (hz : G.ve.size + gn + G.pl.size + A.us.size + rn + A.sc.size + A.pl.size + S.pl.size + sn + U.us.size + un + U.sc.size + U.pl.size ≤ 1099511627776) :
    Calls Try.prog 40 #[.agg #[.string G.ve, .int .u32 G.th, .slice go gn gc, .int .u32 G.ca, .int .u8 G.ch, .int .u16 G.st, .string G.pl, .int .u32 A.ca, .int .u32 A.mo, .int .u8 A.ch, .string A.us, .slice ro rn rc, .string A.sc, .string A.pl, .slice tt tn tc, .string S.pl, .slice so sn sc, .string U.us, .slice uo un uc, .string U.sc, .int .u16 U.ch, .string U.pl, .slice vo vn vc, .int .u32 C]] w fun e w' => OutZ w e w' := by
  have b0 := below_alloc w (.cells #[.string G.ve, .int .u32 G.th, .slice go gn gc, .int .u32 G.ca, .int .u8 G.ch, .int .u16 G.st, .string G.pl, .int .u32 A.ca, .int .u32 A.mo, .int .u8 A.ch, .string A.us, .slice ro rn rc, .string A.sc, .string A.pl, .slice tt tn tc, .string S.pl, .slice so sn sc, .string U.us, .slice uo un uc, .string U.sc, .int .u16 U.ch, .string U.pl, .slice vo vn vc, .int .u32 C] 73)
  have HT := hide (hT.later b0)
  have HV := hide (hV.later b0)
  have tle := hT.le
  have tmx := hT.max
  have vle := hV.le
  have vmx := hV.max
  have tln := hide hT.len
  have vln := hide hV.len
  have B0 := hide b0
  clear hG hA hT hS hU hV b0
  by_cases h1 : 100 < tn
  · go_enter Try.func40, Try.ntmps40
    go_wp2_with fail
    go_ret
    exact ⟨_, rfl, unhide B0⟩
  · by_cases h2 : 100 < vn
    · go_enter Try.func40, Try.ntmps40
      go_wp2_with fail
      go_ret
      exact ⟨_, rfl, unhide B0⟩
    · have d1 : decide ((100 : Int) < (tn : Int)) = false := by simp; omega
      have d2 : decide ((100 : Int) < (vn : Int)) = false := by simp; omega
      go_enter Try.func40, Try.ntmps40
      go_wp2_with fail
      go_loopw [4, 3] (fun i v ws => ∃ (j q : Nat) (x : Int), j ≤ tn ∧ i = .int .i64 (j : Int) ∧ v = .int .i64 x ∧ ws = (w.alloc (.cells #[.string G.ve, .int .u32 G.th, .slice go gn gc, .int .u32 G.ca, .int .u8 G.ch, .int .u16 G.st, .string G.pl, .int .u32 A.ca, .int .u32 A.mo, .int .u8 A.ch, .string A.us, .slice ro rn rc, .string A.sc, .string A.pl, .slice tt tn tc, .string S.pl, .slice so sn sc, .string U.us, .slice uo un uc, .string U.sc, .int .u16 U.ch, .string U.pl, .slice vo vn vc, .int .u32 C] 73)).drewN q) (fun i _ _ => tn - (intOf i).toNat)
      case atStart => exact ⟨0, 0, _, by omega, rfl, rfl, rfl⟩
      case round =>
        obtain ⟨j, q, x, hj, rfl, rfl, rfl⟩ := hrel
        by_cases hlt : j < tn
        · obtain ⟨p, hp⟩ : ∃ p, A.at'[j]? = some p := ⟨A.at'[j]'(by rw [unhide tln]; exact hlt), List.getElem?_eq_getElem _⟩
          obtain ⟨b1, o1, i1, k1, k2⟩ := (unhide HT).idx hp (j : Int) rfl
          clear hp
          go_wp2_with fail
          go_quiet (fail)
          go_wp2_with fail
          go_roundw
          case rel => exact ⟨j + 1, _, _, by omega, by go_num, rfl, (by first | rfl | exact World.drewN_drewN _ _ _)⟩
          case measure => simp [intOf]; omega
        · go_wp2_with fail
          go_loopw [5, 3] (fun i v ws => ∃ (j q : Nat) (x : Int), j ≤ vn ∧ i = .int .i64 (j : Int) ∧ v = .int .i64 x ∧ ws = (w.alloc (.cells #[.string G.ve, .int .u32 G.th, .slice go gn gc, .int .u32 G.ca, .int .u8 G.ch, .int .u16 G.st, .string G.pl, .int .u32 A.ca, .int .u32 A.mo, .int .u8 A.ch, .string A.us, .slice ro rn rc, .string A.sc, .string A.pl, .slice tt tn tc, .string S.pl, .slice so sn sc, .string U.us, .slice uo un uc, .string U.sc, .int .u16 U.ch, .string U.pl, .slice vo vn vc, .int .u32 C] 73)).drewN q) (fun i _ _ => vn - (intOf i).toNat)
          case atStart => exact ⟨0, q, _, by omega, rfl, rfl, rfl⟩
          case round =>
            obtain ⟨j2, q2, x2, hj2, rfl, rfl, rfl⟩ := hrel
            by_cases hlt2 : j2 < vn
            · obtain ⟨p, hp⟩ : ∃ p, U.at'[j2]? = some p := ⟨U.at'[j2]'(by rw [unhide vln]; exact hlt2), List.getElem?_eq_getElem _⟩
              obtain ⟨b1, o1, i1, k1, k2⟩ := (unhide HV).idx hp (j2 : Int) rfl
              clear hp
              go_wp2_with fail
              go_quiet (fail)
              go_wp2_with fail
              go_roundw
              case rel => exact ⟨j2 + 1, _, _, by omega, by go_num, rfl, (by first | rfl | exact World.drewN_drewN _ _ _)⟩
              case measure => simp [intOf]; omega
            · go_wp2_with fail
              go_ret
              exact ⟨_, rfl, (unhide B0).trans ⟨rfl, rfl, rfl, Nat.le_refl _, fun _ _ => rfl⟩⟩

end Go.Proofs.Ytkijdkbkbelliaa
