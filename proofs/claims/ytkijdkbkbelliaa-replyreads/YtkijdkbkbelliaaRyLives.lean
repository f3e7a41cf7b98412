/-
  The chapter's examples that every statement of layer 14 asks first come out as they are written. Conditions: none.
-/
import Derived.Test.YtkijdkbkbelliaaRyApOk
namespace Go.Proofs.Ytkijdkbkbelliaa
open Go.RowKit
set_option linter.unusedVariables false
set_option linter.unusedSimpArgs false

def exO : Ok := ⟨1, 0, 2, 0, ⟨#[]⟩, []⟩
def exE : Er := ⟨1064, ⟨#[52, 50, 48, 48, 48]⟩, ⟨#[110, 111]⟩⟩
theorem exO_ok (c : Int) : oOk c exO = true := rfl
theorem exO_by : [] ++ okB 0 false exO = [0, 1, 0, 2, 0, 0, 0] := by kernel_rfl
theorem exE_by : [] ++ erB exE = [255, 40, 4, 35, 52, 50, 48, 48, 48, 110, 111] := by kernel_rfl
theorem exE_str : strOfNums [255, 40, 4, 35, 52, 50, 48, 48, 48, 110, 111] = ⟨#[255, 40, 4, 35, 52, 50, 48, 48, 48, 110, 111]⟩ := by kernel_rfl

/-- AppendOk of the example, whatever the capabilities. -/
theorem exO_any (c : Int) (l : List Int) (hl : [] ++ okB c false exO = l) (w : World) :
    Calls Try.prog 9 #[.slice none 0 0, .int .u32 c, .agg #[.int .u64 1, .int .u64 0, .int .u16 2, .int .u16 0, .string ⟨#[]⟩, .slice none 0 0], .bool false] w fun e w' => ∃ ao k, e = .returned (.tuple #[.slice ao l.length k, .int .i64 0]) ∧ Mine w.heap.size w' ao l.length k l ∧ Below w.heap.size w w' := by
  have q := appendOk_any none 0 0 [] c exO false none 0 0 w (Bs.nought w) (Bs.nought w) ⟨by decide, by decide, by decide, by decide⟩ (by decide)
  rw [if_pos (exO_ok c), hl] at q
  refine q.mono ?_
  rintro e w' ⟨ao, n, k, rfl, hm, hb⟩
  have hn := hm.len
  subst hn
  exact ⟨ao, k, rfl, hm, hb⟩
theorem exE_any (w : World) :
    Calls Try.prog 22 #[.slice none 0 0, .agg #[.int .u16 1064, .string ⟨#[52, 50, 48, 48, 48]⟩, .string ⟨#[110, 111]⟩]] w fun e w' => ∃ ao k, e = .returned (.tuple #[.slice ao 11 k, .int .i64 0]) ∧ Mine w.heap.size w' ao 11 k [255, 40, 4, 35, 52, 50, 48, 48, 48, 110, 111] ∧ Below w.heap.size w w' := by
  have q := appendErr_any none 0 0 [] exE w (Bs.nought w) (by decide) (by decide)
  rw [if_pos (show eOk exE = true by kernel_rfl), exE_by] at q
  refine q.mono ?_
  rintro e w' ⟨ao, n, k, rfl, hm, hb⟩
  have hn := hm.len
  simp at hn
  subst hn
  exact ⟨ao, k, rfl, hm, hb⟩

set_option maxHeartbeats 2000000 in
set_option maxRecDepth 100000 in
theorem lives_any (w : World) : Calls Try.prog 17 #[] w fun e w' => e = .returned (.bool true) ∧ Below w.heap.size w w' := by
  have cO := hide (exO_any 0 _ exO_by w)
  go_enter Try.func17, Try.ntmps17
  go_wp2_with fail
  refine (unhide cO).mono ?_
  rintro e w1 ⟨a1, c1, rfl, m1, b1⟩
  have cE := hide (exE_any w1)
  have M1 := hide m1
  have B1 := hide b1
  clear m1 b1 cO
  go_wp2_with fail
  refine (unhide cE).mono ?_
  rintro e w2 ⟨a2, c2, rfl, m2, b2⟩
  have B2 := hide ((unhide B1).trans (b2.mono (unhide B1).size))
  have b3 := below_alloc w2 (.cells #[.int .u8 0, .int .u8 1, .int .u8 0, .int .u8 2, .int .u8 0, .int .u8 0, .int .u8 0] 5)
  have lb := Bs.lit w2 [0, 1, 0, 2, 0, 0, 0] (by intro x hx; simp at hx; omega) (by decide)
  have cS := hide (sameBytes_any a1 7 c1 [0, 1, 0, 2, 0, 0, 0] (some ⟨w2.heap.size, 0, none⟩) 7 7 [0, 1, 0, 2, 0, 0, 0] _ (((unhide M1).bs.later b2).later b3) lb)
  rw [decide_eq_true rfl] at cS
  have hstr := (m2.bs.later b3).str
  rw [exE_str] at hstr
  have B3 := hide ((unhide B2).trans (b3.mono (unhide B2).size))
  clear m2 b2 cE lb B1 B2 M1 b3
  go_wp2_with (go_at_call 12; refine same_world (unhide cS) ?_)
  go_ret
  exact ⟨rfl, unhide B3⟩

end Go.Proofs.Ytkijdkbkbelliaa
