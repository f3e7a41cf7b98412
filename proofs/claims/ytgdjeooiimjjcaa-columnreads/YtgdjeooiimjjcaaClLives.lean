/-
  The chapter's examples that every statement of layer 15 asks first come out as they are written; which columns are gone through. Conditions: none.
-/
import Derived.Test.YtgdjeooiimjjcaaClApp
namespace Go.Proofs.Ytgdjeooiimjjcaa
open Go.RowKit
set_option linter.unusedVariables false
set_option linter.unusedSimpArgs false

def exC : Co := ⟨⟨#[115]⟩, ⟨#[116]⟩, ⟨#[116]⟩, ⟨#[97]⟩, ⟨#[97]⟩, 63, 11, 8, 0, 0⟩
theorem exC_by : [] ++ coB exC = [3, 100, 101, 102, 1, 115, 1, 116, 1, 116, 1, 97, 1, 97, 12, 63, 0, 11, 0, 0, 0, 8, 0, 0, 0, 0, 0] := by kernel_rfl
theorem exC_ok : cOk exC = true := by kernel_rfl

set_option maxHeartbeats 2000000 in
set_option maxRecDepth 100000 in
theorem one_any (w : World) : Calls Try.prog 17 #[] w fun e w' => e = .returned (.agg #[.string ⟨#[115]⟩, .string ⟨#[116]⟩, .string ⟨#[116]⟩, .string ⟨#[97]⟩, .string ⟨#[97]⟩, .int .u16 63, .int .u32 11, .int .u8 8, .int .u16 0, .int .u8 0]) ∧ Below w.heap.size w w' := by
  go_enter Try.func17, Try.ntmps17
  go_wp2_with fail
  refine bodyPost_ret (results_cell_row rfl _ _ w.heap.size _ _ _ _ rfl (heap_alloc_new w _) Try.underlying28 rfl (by kernel_rfl)) rfl ?_
  exact ⟨rfl, below_alloc w _⟩

theorem exC_any (w : World) :
    Calls Try.prog 14 #[.slice none 0 0, .agg #[.string ⟨#[115]⟩, .string ⟨#[116]⟩, .string ⟨#[116]⟩, .string ⟨#[97]⟩, .string ⟨#[97]⟩, .int .u16 63, .int .u32 11, .int .u8 8, .int .u16 0, .int .u8 0]] w fun e w' => ∃ ao k, e = .returned (.tuple #[.slice ao 27 k, .int .i64 0]) ∧ Mine w.heap.size w' ao 27 k [3, 100, 101, 102, 1, 115, 1, 116, 1, 116, 1, 97, 1, 97, 12, 63, 0, 11, 0, 0, 0, 8, 0, 0, 0, 0, 0] ∧ Below w.heap.size w w' := by
  have q := append_any none 0 0 [] exC w (Bs.nought w) ⟨by decide, by decide, by decide, by decide, by decide⟩ (by decide)
  rw [if_pos exC_ok, exC_by] at q
  refine q.mono ?_
  rintro e w' ⟨ao, n, k, rfl, hm, hb⟩
  have hn := hm.len
  simp at hn
  subst hn
  exact ⟨ao, k, rfl, hm, hb⟩
theorem count_lit (N : Int) (l : List Int) (hN : nOk N = true) (hl : [] ++ form N = l) (n : Nat) (hn : l.length = n) (w : World) :
    Calls Try.prog 13 #[.slice none 0 0, .int .i64 N] w fun e w' => ∃ ao k, e = .returned (.tuple #[.slice ao n k, .int .i64 0]) ∧ Mine w.heap.size w' ao n k l ∧ Below w.heap.size w w' := by
  have q := appendCount_any none 0 0 [] N w (Bs.nought w) (by decide)
  rw [if_pos hN, hl] at q
  refine q.mono ?_
  rintro e w' ⟨ao, m, k, rfl, hm, hb⟩
  have h2 := hm.len
  rw [hn] at h2
  subst h2
  exact ⟨ao, k, rfl, hm, hb⟩

set_option maxHeartbeats 2000000 in
set_option maxRecDepth 100000 in
theorem lives_any (w : World) : Calls Try.prog 5 #[] w fun e w' => e = .returned (.bool true) ∧ Below w.heap.size w w' := by
  have cO := hide (one_any w)
  go_enter Try.func5, Try.ntmps5
  go_wp2_with fail
  refine (unhide cO).mono ?_
  rintro e w1 ⟨rfl, b1⟩
  have cE := hide (exC_any w1)
  have B1 := hide b1
  clear b1 cO
  go_wp2_with fail
  refine (unhide cE).mono ?_
  rintro e w2 ⟨a2, c2, rfl, m2, b2⟩
  have cN := hide (count_lit 300 [252, 44, 1] (by kernel_rfl) (by kernel_rfl) 3 rfl w2)
  have B2 := hide (bup (unhide B1) b2)
  have M2 := hide m2.bs
  clear b2 m2 cE B1
  go_wp2_with fail
  refine (unhide cN).mono ?_
  rintro e w3 ⟨a3, c3, rfl, m3, b3⟩
  have B3 := hide (bup (unhide B2) b3)
  obtain ⟨xo, xc, hcut, hxb⟩ := ((unhide M2).later b3).cut_h (hi := 4) (by omega) 4 rfl
  have b4 := below_alloc w3 (.cells #[.int .u8 3, .int .u8 100, .int .u8 101, .int .u8 102] 5)
  have lb := Bs.lit w3 [3, 100, 101, 102] (by intro x hx; simp at hx; omega) (by decide)
  have cS := hide (sameBytes_any xo 4 xc [3, 100, 101, 102] (some ⟨w3.heap.size, 0, none⟩) 4 4 [3, 100, 101, 102] _ (hxb.later b4) lb)
  rw [decide_eq_true rfl] at cS
  obtain ⟨w4, hw4⟩ : ∃ z, z = w3.alloc (.cells #[.int .u8 3, .int .u8 100, .int .u8 101, .int .u8 102] 5) := ⟨_, rfl⟩
  have b5 := below_alloc w4 (.cells #[.int .u8 252, .int .u8 44, .int .u8 1] 5)
  have lb2 := Bs.lit w4 [252, 44, 1] (by intro x hx; simp at hx; omega) (by decide)
  rw [← hw4] at b4
  have cS2 := hide (sameBytes_any a3 3 c3 [252, 44, 1] (some ⟨w4.heap.size, 0, none⟩) 3 3 [252, 44, 1] _ ((m3.bs.later b4).later b5) lb2)
  rw [decide_eq_true rfl] at cS2
  have B5 := hide (bup (bup (unhide B3) b4) b5)
  have HW := hide hw4
  clear b3 m3 cN B2 B3 M2 hxb lb lb2 b4 b5 hw4
  go_wp2_with (first
    | (go_at_call 18; refine same_world (unhide cS) ?_; rw [show w3.alloc _ = w4 from (unhide HW).symm]; clear cS)
    | (go_at_call 18; refine same_world (unhide cS2) ?_))
  go_ret
  exact ⟨rfl, unhide B5⟩

-- Is a column gone through? Whatever the answer (the sum of great lengths wraps).
set_option maxHeartbeats 2000000 in
set_option maxRecDepth 100000 in
theorem small_any (p : Co) (w : World) :
    Calls Try.prog 12 #[.agg #[.string p.sc, .string p.ta, .string p.ot, .string p.na, .string p.on, .int .u16 p.ch, .int .u32 p.le, .int .u8 p.ty, .int .u16 p.fl, .int .u8 p.de]] w fun e w' => ∃ B, e = .returned (.bool B) ∧ Below w.heap.size w w' := by
  go_enter Try.func12, Try.ntmps12
  go_wp2_with fail
  go_ret
  exact ⟨_, rfl, below_alloc w _⟩

end Go.Proofs.Ytgdjeooiimjjcaa
