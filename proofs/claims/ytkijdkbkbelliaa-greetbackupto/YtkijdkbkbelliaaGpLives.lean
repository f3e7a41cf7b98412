/-
  The nonce of the statements, and the chapter's examples that every statement of layer 12 asks first, come out as they are written. Conditions: none.
-/
import Derived.Test.YtkijdkbkbelliaaGpApGr
import Derived.Test.YtkijdkbkbelliaaGpApAn
namespace Go.Proofs.Ytkijdkbkbelliaa
open Go.RowKit
set_option linter.unusedVariables false
set_option linter.unusedSimpArgs false

/-- The bytes 1 to 20, the first j of them. -/
def n20j (j : Nat) : List Int := (List.range j).map fun (i : Nat) => (i : Int) + 1
def n20 : List Int := [1, 2, 3, 4, 5, 6, 7, 8, 9, 10, 11, 12, 13, 14, 15, 16, 17, 18, 19, 20]
theorem n20j_next (j : Nat) : n20j (j + 1) = n20j j ++ [(j : Int) + 1] := by unfold n20j; rw [List.range_succ, List.map_append]; rfl
theorem n20_is : n20j 20 = n20 := rfl

set_option maxHeartbeats 1000000 in
theorem lawNonce_any (w : World) : Calls Try.prog 86 #[] w fun e w' => ∃ ao c, e = .returned (.slice ao 20 c) ∧ Mine w.heap.size w' ao 20 c n20 ∧ Below w.heap.size w w' := by
  go_enter Try.func86, Try.ntmps86
  go_wp2_with fail
  go_loopw [2, 1] (fun i v ws => ∃ (j : Nat) (ao : Option Addr) (c : Nat), j ≤ 20 ∧ i = .int .i64 ((j : Int) + 1) ∧ v = .slice ao j c ∧ Mine w.heap.size ws ao j c (n20j j) ∧ Below w.heap.size w ws) (fun i _ _ => 21 - (intOf i).toNat)
  case atStart => exact ⟨0, none, 0, by omega, rfl, rfl, Mine.nought _ _, Below.refl _ _⟩
  case round =>
    obtain ⟨j, ao, c, hj, rfl, rfl, hM, hB⟩ := hrel
    by_cases hlt : j < 20
    · have hst := hide (n20j_next j)
      have HM := hide hM
      have HB := hide hB
      have hBs := hB.size
      have j0 : 0 ≤ (j : Int) := by omega
      have j1 : (j : Int) < 20 := by omega
      clear hM hB
      go_wp2_with (first
        | (at_builtin; refine wpList_app rfl (.tmp 7) (.tmp 10) rfl w.heap.size ao j c _ rfl ((unhide HM).later (below_alloc wr _)) _ 1 1 _ rfl (Bs.one wr ((j : Int) + 1) (by omega) (by omega)) (by omega) (by simp <;> omega) ?_; intro a3 c3 w3 m3 b3; have M3 := hide m3; have B3 := hide (((unhide HB).trans ((below_alloc wr _).mono hBs)).trans b3); clear m3 b3))
      go_roundw
      case rel =>
        refine ⟨j + 1, a3, c3, by omega, by go_num, rfl, ?_, unhide B3⟩
        rw [unhide hst]
        exact unhide M3
      case measure => simp [intOf]; omega
    · have hjn : j = 20 := by omega
      subst hjn
      rw [n20_is] at hM
      have HM := hide hM
      have HB := hide hB
      clear hM hB
      go_wp2_with fail
      go_ret
      exact ⟨ao, c, rfl, unhide HM, unhide HB⟩

/-- The chapter's greeting, and its answer. -/
def exG : Gr := ⟨⟨#[56]⟩, 1, n20, 33280, 45, 2, ⟨#[]⟩⟩
def exA : An := ⟨33280, 1000, 45, ⟨#[117]⟩, [7], ⟨#[]⟩, ⟨#[]⟩, []⟩
theorem exG_ok : gOk exG = true := by kernel_rfl
theorem exA_ok : aOk exA = true := by kernel_rfl
theorem exG_len : ([] ++ grB exG).length = 47 := by kernel_rfl
theorem exA_len : ([] ++ anB exA).length = 36 := by kernel_rfl
theorem exA_end : ([] ++ anB exA).drop 32 = [117, 0, 1, 7] := by kernel_rfl

theorem exG_any (xo : Option Addr) (xc : Nat) (w : World) (h : Bs w xo 20 xc n20) :
    Calls Try.prog 41 #[.slice none 0 0, .agg #[.string ⟨#[56]⟩, .int .u32 1, .slice xo 20 xc, .int .u32 33280, .int .u8 45, .int .u16 2, .string ⟨#[]⟩]] w fun e w' => ∃ ao c, e = .returned (.tuple #[.slice ao 47 c, .int .i64 0]) ∧ Below w.heap.size w w' := by
  have c := appendGreeting_any none 0 0 [] xo 20 xc exG w (Bs.nought w) h ⟨by decide, by decide, by decide, by decide⟩ (by decide)
  rw [if_pos exG_ok] at c
  refine c.mono ?_
  rintro e w' ⟨ao, n, c, rfl, hm, hb⟩
  have hn := hm.len
  rw [exG_len] at hn
  subst hn
  exact ⟨ao, c, rfl, hb⟩
theorem exA_any (xo : Option Addr) (xc : Nat) (w : World) (h : Bs w xo 1 xc [7]) :
    Calls Try.prog 45 #[.slice none 0 0, .agg #[.int .u32 33280, .int .u32 1000, .int .u8 45, .string ⟨#[117]⟩, .slice xo 1 xc, .string ⟨#[]⟩, .string ⟨#[]⟩, .slice none 0 0]] w fun e w' => ∃ ao c, e = .returned (.tuple #[.slice ao 36 c, .int .i64 0]) ∧ Mine w.heap.size w' ao 36 c ([] ++ anB exA) ∧ Below w.heap.size w w' := by
  have c := appendAnswer_any none 0 0 [] xo 1 xc none 0 0 exA w (Bs.nought w) h (As.nought w) ⟨by decide, by decide, by decide⟩ (by decide)
  rw [if_pos exA_ok] at c
  refine c.mono ?_
  rintro e w' ⟨ao, n, c, rfl, hm, hb⟩
  have hn := hm.len
  rw [exA_len] at hn
  subst hn
  exact ⟨ao, c, rfl, hm, hb⟩

set_option maxHeartbeats 2000000 in
set_option maxRecDepth 100000 in
theorem lives_any (w : World) : Calls Try.prog 39 #[] w fun e w' => e = .returned (.bool true) ∧ Below w.heap.size w w' := by
  have nc := hide (lawNonce_any w)
  go_enter Try.func39, Try.ntmps39
  go_wp2_with fail
  refine (unhide nc).mono ?_
  rintro e w1 ⟨a1, c1, rfl, m1, b1⟩
  have cG := hide (exG_any a1 c1 w1 m1.bs)
  have B1 := hide b1
  clear m1 b1 nc
  go_wp2_with fail
  refine (unhide cG).mono ?_
  rintro e w2 ⟨a2, c2, rfl, b2⟩
  have B2 := hide ((unhide B1).trans (b2.mono (unhide B1).size))
  have hz2 := (unhide B2).size
  have b3 := below_alloc w2 (.cells #[.int .u8 7] 5)
  have cA := hide (exA_any _ _ _ (Bs.one w2 7 (by omega) (by omega)))
  have B3 := hide ((unhide B2).trans (b3.mono (unhide B2).size))
  clear b2 cG B1 b3
  go_wp2_with fail
  refine (unhide cA).mono ?_
  rintro e w4 ⟨a4, c4, rfl, m4, b4⟩
  have B4 := hide ((unhide B3).trans (b4.mono (unhide B3).size))
  obtain ⟨ao, cc, hcut, hcb⟩ := m4.bs.cut_l (lo := 32) (by omega) 32 rfl
  rw [exA_end] at hcb
  have b5 := below_alloc w4 (.cells #[.int .u8 117, .int .u8 0, .int .u8 1, .int .u8 7] 5)
  have lb := Bs.lit w4 [117, 0, 1, 7] (by intro x hx; simp at hx; omega) (by decide)
  have cS := hide (sameBytes_any ao (36 - 32) cc [117, 0, 1, 7] (some ⟨w4.heap.size, 0, none⟩) 4 4 [117, 0, 1, 7] _ (hcb.later b5) lb)
  rw [decide_eq_true rfl] at cS
  have B5 := hide ((unhide B4).trans (b5.mono (unhide B4).size))
  clear m4 b4 cA hcb b5 lb B2 B3 B4 hz2
  go_wp2_with (go_at_call 12; refine same_world (unhide cS) ?_)
  go_ret
  exact ⟨rfl, unhide B5⟩

end Go.Proofs.Ytkijdkbkbelliaa
