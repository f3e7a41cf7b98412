/-
  What Joined and Rolled of package adler, and the document's own answers, return for any numbers: the plain functions joined and rolled of the text AdlPlain. They write nothing. Conditions: a number fits its kind.
-/
import Derived.Test.YtmndgdclcompjaaAdlSums
namespace Go.Proofs.Ytmndgdclcompjaa
open Go.RowKit
set_option linter.unusedVariables false
set_option linter.unusedSimpArgs false

theorem joined_bad {a b n : Int} (h : n < 0 ∨ ¬ isSum a ∨ ¬ isSum b) : joined a b n = (0, 2) := by unfold joined; rw [if_pos h]
theorem joined_ok {a b n : Int} (h1 : ¬ n < 0) (h2 : isSum a) (h3 : isSum b) : joined a b n = (pack ((a % 65536 + b % 65536 - 1) % 65521, (a / 65536 + b / 65536 + n * (a % 65536 - 1)) % 65521), 0) := by
  unfold joined
  rw [if_neg (by rintro (h | h | h); exact h1 h; exact h h2; exact h h3)]
theorem rolled_bad {s o i n : Int} (h : n < 1 ∨ ¬ isSum s) : rolled s o i n = (0, 2) := by unfold rolled; rw [if_pos h]
theorem rolled_ok {s o i n : Int} (h1 : ¬ n < 1) (h2 : isSum s) : rolled s o i n = (pack ((s % 65536 - o + i) % 65521, (s / 65536 - n * o + (s % 65536 - o + i) - 1) % 65521), 0) := by
  unfold rolled
  rw [if_neg (by rintro (h | h); exact h1 h; exact h h2)]

theorem prod_bounds {x y : Int} {B C : Int} (h0 : 0 ≤ x) (h1 : x ≤ B) (h2 : 0 ≤ y) (h3 : y ≤ C) : 0 ≤ x * y ∧ x * y ≤ B * C := by
  refine ⟨Int.mul_nonneg h0 h2, ?_⟩
  exact Int.mul_le_mul h1 h3 h2 (by omega)

set_option maxHeartbeats 800000 in
theorem joined_any (a b n : Int) (w : World) (a0 : 0 ≤ a) (a1 : a < 4294967296) (b0 : 0 ≤ b) (b1 : b < 4294967296) (n1 : n < 9223372036854775808) :
    Calls Try.prog 8 #[.int .u32 a, .int .u32 b, .int .i64 n] w fun e w' => e = .returned (.tuple #[.int .u32 (joined a b n).1, .int .i64 (joined a b n).2]) ∧ w' = w := by
  have cA := hide (fun w => isSum_any a w a0 a1)
  have cB := hide (fun w => isSum_any b w b0 b1)
  by_cases hn : n < 0
  · rw [joined_bad (.inl hn)]
    go_enter Try.func8, Try.ntmps8
    go_wp2_with fail
    go_ret2
    exact ⟨rfl, rfl⟩
  by_cases ha : isSum a
  · rw [show decide (isSum a) = true by simpa using ha] at cA
    by_cases hb : isSum b
    · rw [show decide (isSum b) = true by simpa using hb] at cB
      rw [joined_ok hn ha hb]
      obtain ⟨ha1, ha2⟩ := ha
      obtain ⟨hb1, hb2⟩ := hb
      have hn0 : 0 ≤ n := by omega
      have l1 := hide (fun w => lowOf_any a w a0 a1)
      have l2 := hide (fun w => lowOf_any b w b0 b1)
      have g1 := hide (fun w => highOf_any a w a0 a1)
      have g2 := hide (fun w => highOf_any b w b0 b1)
      have r0 := hide (fun w => remainder_any n w hn0 n1)
      have eh := hide (joined_high (a / 65536) (b / 65536) n (a % 65536 - 1))
      have hp := prod_bounds (x := n % 65521) (y := (a % 65536 - 1) % 65521) (B := 65520) (C := 65520) (by omega) (by omega) (by omega) (by omega)
      obtain ⟨P, hP⟩ : ∃ P, P = n % 65521 * ((a % 65536 - 1) % 65521) := ⟨_, rfl⟩
      rw [← hP] at hp eh
      obtain ⟨hp0, hp1⟩ := hp
      have HP := hP.symm
      clear hP hn n1
      go_enter Try.func8, Try.ntmps8
      go_wp2_with fail
      refine same_world (unhide cA _) ?_
      go_wp2_with fail
      refine same_world (unhide cB _) ?_
      go_wp2_with fail
      refine same_world (unhide l1 _) ?_
      go_wp2_with fail
      refine same_world (minus_any (a % 65536) 1 _ (by omega) (by omega) (by omega)) ?_
      go_wp2_with fail
      refine same_world (unhide l2 _) ?_
      go_wp2_with fail
      refine same_world (unhide g1 _) ?_
      go_wp2_with fail
      refine same_world (unhide g2 _) ?_
      go_wp2_with fail
      refine same_world (unhide r0 _) ?_
      go_wp2_with fail
      refine same_world (together_any _ _ _ (by omega) (by omega) (by omega) (by omega)) ?_
      go_wp2_with fail
      go_ret2
      refine ⟨tup2 ?_ rfl, rfl⟩
      congr 1
      rw [Prod.mk.injEq, ← unhide eh]
      constructor <;> omega
    · rw [show decide (isSum b) = false by simpa using hb] at cB
      rw [joined_bad (.inr (.inr hb))]
      clear ha hb
      go_enter Try.func8, Try.ntmps8
      go_wp2_with fail
      refine same_world (unhide cA _) ?_
      go_wp2_with fail
      refine same_world (unhide cB _) ?_
      go_wp2_with fail
      go_ret2
      exact ⟨rfl, rfl⟩
  · rw [show decide (isSum a) = false by simpa using ha] at cA
    rw [joined_bad (.inr (.inl ha))]
    clear ha
    go_enter Try.func8, Try.ntmps8
    go_wp2_with fail
    refine same_world (unhide cA _) ?_
    go_wp2_with fail
    go_ret2
    exact ⟨rfl, rfl⟩

end Go.Proofs.Ytmndgdclcompjaa
