/-
  What Rolled of package adler, and the document's own answers for Joined and Rolled, return for any numbers. They write nothing. Conditions: a number fits its kind.
-/
import Derived.Test.YtmndgdclcompjaaAdlJoin
namespace Go.Proofs.Ytmndgdclcompjaa
open Go.RowKit
set_option linter.unusedVariables false
set_option linter.unusedSimpArgs false

theorem ref_high (n x : Int) : n % 65521 * (x + 65521 - 1) % 65521 = n * (x - 1) % 65521 := by
  have e : n % 65521 * (x + 65521 - 1) = n % 65521 * (x - 1) + 65521 * (n % 65521) := by
    rw [show x + 65521 - 1 = (x - 1) + 65521 by omega, Int.mul_add, Int.mul_comm (n % 65521) 65521]
  rw [e, Int.add_mul_emod_self_left, mul_rem]

set_option maxHeartbeats 800000 in
theorem joined_ref (a b n : Int) (w : World) (a0 : 0 ≤ a) (a1 : a < 4294967296) (b0 : 0 ≤ b) (b1 : b < 4294967296) (n1 : n < 9223372036854775808) :
    Calls Try.prog 12 #[.int .u32 a, .int .u32 b, .int .i64 n] w fun e w' => e = .returned (.tuple #[.int .u32 (joined a b n).1, .int .i64 (joined a b n).2]) ∧ w' = w := by
  have cA := hide (fun w => halves_ref a w a0 a1)
  have cB := hide (fun w => halves_ref b w b0 b1)
  by_cases hn : n < 0
  · rw [joined_bad (.inl hn)]
    go_enter Try.func12, Try.ntmps12
    go_wp2_with fail
    go_ret2
    exact ⟨rfl, rfl⟩
  by_cases ha : isSum a
  · rw [show decide (isSum a) = true by simpa using ha] at cA
    by_cases hb : isSum b
    · rw [show decide (isSum b) = true by simpa using hb] at cB
      rw [joined_ok hn ha hb]
      obtain ⟨ha1, ha2⟩ := ha
      obtain ⟨hb1, hb2⟩ := hb
      have hn0 : 0 ≤ n := by omega
      have eh := hide (ref_high n (a % 65536))
      have hp := prod_bounds (x := n % 65521) (y := a % 65536 + 65521 - 1) (B := 65520) (C := 131040) (by omega) (by omega) (by omega) (by omega)
      obtain ⟨P, hP⟩ : ∃ P, P = n % 65521 * (a % 65536 + 65521 - 1) := ⟨_, rfl⟩
      rw [← hP] at hp eh
      obtain ⟨hp0, hp1⟩ := hp
      have HP := hP.symm
      clear hP hn
      go_enter Try.func12, Try.ntmps12
      go_wp2_with fail
      refine same_world (unhide cA _) ?_
      go_wp2_with fail
      refine same_world (unhide cB _) ?_
      go_wp2_with fail
      go_ret2
      refine ⟨tup2 ?_ rfl, rfl⟩
      have := unhide eh
      unfold pack
      simp only
      omega
    · rw [show decide (isSum b) = false by simpa using hb] at cB
      rw [joined_bad (.inr (.inr hb))]
      clear ha hb
      go_enter Try.func12, Try.ntmps12
      go_wp2_with fail
      refine same_world (unhide cA _) ?_
      go_wp2_with fail
      refine same_world (unhide cB _) ?_
      go_wp2_with fail
      go_ret2
      exact ⟨rfl, rfl⟩
  · rw [show decide (isSum a) = false by simpa using ha] at cA
    rw [joined_bad (.inr (.inl ha))]
    clear ha
    go_enter Try.func12, Try.ntmps12
    go_wp2_with fail
    refine same_world (unhide cA _) ?_
    go_wp2_with fail
    go_ret2
    exact ⟨rfl, rfl⟩

set_option maxHeartbeats 800000 in
theorem rolled_any (s o i n : Int) (w : World) (s0 : 0 ≤ s) (s1 : s < 4294967296) (o0 : 0 ≤ o) (o1 : o ≤ 255) (i0 : 0 ≤ i) (i1 : i ≤ 255) (n1 : n < 9223372036854775808) :
    Calls Try.prog 9 #[.int .u32 s, .int .u8 o, .int .u8 i, .int .i64 n] w fun e w' => e = .returned (.tuple #[.int .u32 (rolled s o i n).1, .int .i64 (rolled s o i n).2]) ∧ w' = w := by
  have cA := hide (fun w => isSum_any s w s0 s1)
  by_cases hn : n < 1
  · rw [rolled_bad (.inl hn)]
    go_enter Try.func9, Try.ntmps9
    go_wp2_with fail
    go_ret2
    exact ⟨rfl, rfl⟩
  by_cases ha : isSum s
  · rw [show decide (isSum s) = true by simpa using ha] at cA
    rw [rolled_ok hn ha]
    obtain ⟨ha1, ha2⟩ := ha
    have hn0 : 0 ≤ n := by omega
    have l1 := hide (fun w => lowOf_any s w s0 s1)
    have g1 := hide (fun w => highOf_any s w s0 s1)
    have r0 := hide (fun w => remainder_any n w hn0 n1)
    have eh := hide (mul_rem n o)
    have hp := prod_bounds (x := n % 65521) (y := o) (B := 65520) (C := 255) (by omega) (by omega) o0 o1
    obtain ⟨P, hP⟩ : ∃ P, P = n % 65521 * o := ⟨_, rfl⟩
    rw [← hP] at hp eh
    obtain ⟨hp0, hp1⟩ := hp
    have HP := hP.symm
    have hd : decide (n < 1) = false := by simpa using hn
    clear hP hn n1
    go_enter Try.func9, Try.ntmps9
    go_wp2_with fail
    refine same_world (unhide cA _) ?_
    go_wp2_with fail
    refine same_world (unhide l1 _) ?_
    go_wp2_with fail
    refine same_world (minus_any (s % 65536) o _ (by omega) (by omega) (by omega)) ?_
    go_wp2_with fail
    refine same_world (unhide g1 _) ?_
    go_wp2_with fail
    refine same_world (unhide r0 _) ?_
    go_wp2_with fail
    refine same_world (minus_any (s / 65536) P _ (by omega) (by omega) (by omega)) ?_
    go_wp2_with fail
    refine same_world (minus_any ((s % 65536 - o) % 65521 + i) 1 _ (by omega) (by omega) (by omega)) ?_
    go_wp2_with fail
    refine same_world (together_any _ _ _ (by omega) (by omega) (by omega) (by omega)) ?_
    go_wp2_with fail
    go_ret2
    refine ⟨tup2 ?_ rfl, rfl⟩
    have := unhide eh
    generalize n * o = M at *
    congr 1
    rw [Prod.mk.injEq]
    constructor <;> omega
  · rw [show decide (isSum s) = false by simpa using ha] at cA
    rw [rolled_bad (.inr ha)]
    have hd : decide (n < 1) = false := by simpa using hn
    clear ha
    go_enter Try.func9, Try.ntmps9
    go_wp2_with fail
    refine same_world (unhide cA _) ?_
    go_wp2_with fail
    go_ret2
    exact ⟨rfl, rfl⟩

set_option maxHeartbeats 800000 in
theorem rolled_ref (s o i n : Int) (w : World) (s0 : 0 ≤ s) (s1 : s < 4294967296) (o0 : 0 ≤ o) (o1 : o ≤ 255) (i0 : 0 ≤ i) (i1 : i ≤ 255) (n1 : n < 9223372036854775808) :
    Calls Try.prog 13 #[.int .u32 s, .int .u8 o, .int .u8 i, .int .i64 n] w fun e w' => e = .returned (.tuple #[.int .u32 (rolled s o i n).1, .int .i64 (rolled s o i n).2]) ∧ w' = w := by
  have cA := hide (fun w => halves_ref s w s0 s1)
  by_cases hn : n < 1
  · rw [rolled_bad (.inl hn)]
    go_enter Try.func13, Try.ntmps13
    go_wp2_with fail
    go_ret2
    exact ⟨rfl, rfl⟩
  by_cases ha : isSum s
  · rw [show decide (isSum s) = true by simpa using ha] at cA
    rw [rolled_ok hn ha]
    obtain ⟨ha1, ha2⟩ := ha
    have hn0 : 0 ≤ n := by omega
    have eh := hide (mul_rem n o)
    have hp := prod_bounds (x := n % 65521) (y := o) (B := 65520) (C := 255) (by omega) (by omega) o0 o1
    obtain ⟨P, hP⟩ : ∃ P, P = n % 65521 * o := ⟨_, rfl⟩
    rw [← hP] at hp eh
    obtain ⟨hp0, hp1⟩ := hp
    have HP := hP.symm
    have hd : decide (n < 1) = false := by simpa using hn
    clear hP hn
    go_enter Try.func13, Try.ntmps13
    go_wp2_with fail
    refine same_world (unhide cA _) ?_
    go_wp2_with fail
    go_ret2
    refine ⟨tup2 ?_ rfl, rfl⟩
    have := unhide eh
    generalize n * o = M at *
    unfold pack
    simp only
    omega
  · rw [show decide (isSum s) = false by simpa using ha] at cA
    rw [rolled_bad (.inr ha)]
    have hd : decide (n < 1) = false := by simpa using hn
    clear ha
    go_enter Try.func13, Try.ntmps13
    go_wp2_with fail
    refine same_world (unhide cA _) ?_
    go_wp2_with fail
    go_ret2
    exact ⟨rfl, rfl⟩

end Go.Proofs.Ytmndgdclcompjaa
