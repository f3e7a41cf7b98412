/-
  What the small functions of package adler, and those that give the document's answer, return: none of them touches memory. Conditions: a number fits its kind.
-/
import Derived.Test.YtmndgdclcompjaaSlices
import Derived.Test.YtmndgdclcompjaaAdlPlain
namespace Go.Proofs.Ytmndgdclcompjaa
open Go.RowKit
set_option linter.unusedVariables false
set_option linter.unusedSimpArgs false

theorem and_low (s : Int) (h0 : 0 ≤ s) (h1 : s < 4294967296) : bits BinOp.and IntKind.u32 s 65535 = s % 65536 := by
  rw [u32_and s 65535 h0 h1 (by omega) (by omega)]
  have : s.toNat &&& (65535 : Int).toNat = s.toNat % 65536 := Nat.and_two_pow_sub_one_eq_mod s.toNat 16
  rw [this]
  omega

theorem or_high (l h : Int) (h0 : 0 ≤ l) (h1 : l < 65536) (h2 : 0 ≤ h) (h3 : h < 65536) : bits BinOp.or IntKind.u32 (h * 65536) l = h * 65536 + l := by
  rw [u32_or _ _ (by omega) (by omega) h0 (by omega), nat_join 16 _ _ (by omega) (by omega)]
  omega

set_option maxHeartbeats 400000 in
theorem lowOf_any (s : Int) (w : World) (h0 : 0 ≤ s) (h1 : s < 4294967296) :
    Calls Try.prog 19 #[.int .u32 s] w fun e w' => e = .returned (.int .u32 (s % 65536)) ∧ w' = w := by
  have hb := hide (and_low s h0 h1)
  go_enter Try.func19, Try.ntmps19
  go_wp2
  go_ret
  exact ⟨by rw [← unhide hb]; rfl, rfl⟩

set_option maxHeartbeats 400000 in
theorem highOf_any (s : Int) (w : World) (h0 : 0 ≤ s) (h1 : s < 4294967296) :
    Calls Try.prog 20 #[.int .u32 s] w fun e w' => e = .returned (.int .u32 (s / 65536)) ∧ w' = w := by
  go_enter Try.func20, Try.ntmps20
  go_wp2
  go_ret
  exact ⟨rfl, rfl⟩

set_option maxHeartbeats 400000 in
theorem together_any (l h : Int) (w : World) (h0 : 0 ≤ l) (h1 : l < 65536) (h2 : 0 ≤ h) (h3 : h < 65536) :
    Calls Try.prog 22 #[.int .u32 l, .int .u32 h] w fun e w' => e = .returned (.int .u32 (pack (l, h))) ∧ w' = w := by
  have hb := or_high l h h0 h1 h2 h3
  go_enter Try.func22, Try.ntmps22
  go_wp2
  go_ret
  exact ⟨rfl, rfl⟩

set_option maxHeartbeats 400000 in
theorem isSum_any (s : Int) (w : World) (h0 : 0 ≤ s) (h1 : s < 4294967296) :
    Calls Try.prog 17 #[.int .u32 s] w fun e w' => e = .returned (.bool (decide (isSum s))) ∧ w' = w := by
  have c1 := hide (fun w => lowOf_any s w h0 h1)
  have c2 := hide (fun w => highOf_any s w h0 h1)
  by_cases a : s % 65536 < 65521
  · by_cases b : s / 65536 < 65521
    · rw [show decide (isSum s) = true by simp [isSum, a, b]]
      go_enter Try.func17, Try.ntmps17
      go_wp2_with fail
      refine same_world (unhide c1 _) ?_
      go_wp2_with fail
      refine same_world (unhide c2 _) ?_
      go_wp2_with fail
      go_ret
      exact ⟨rfl, rfl⟩
    · rw [show decide (isSum s) = false by simp [isSum, b]]
      have b' : decide (s / 65536 < 65521) = false := by simpa using b
      go_enter Try.func17, Try.ntmps17
      go_wp2_with fail
      refine same_world (unhide c1 _) ?_
      go_wp2_with fail
      refine same_world (unhide c2 _) ?_
      go_wp2_with fail
      go_ret
      exact ⟨rfl, rfl⟩
  · rw [show decide (isSum s) = false by simp [isSum, a]]
    go_enter Try.func17, Try.ntmps17
    go_wp2_with fail
    refine same_world (unhide c1 _) ?_
    go_wp2_with fail
    go_ret
    exact ⟨rfl, rfl⟩

set_option maxHeartbeats 400000 in
theorem halves_ref (s : Int) (w : World) (h0 : 0 ≤ s) (h1 : s < 4294967296) :
    Calls Try.prog 23 #[.int .u32 s] w fun e w' => e = .returned (.bool (decide (isSum s))) ∧ w' = w := by
  by_cases a : s % 65536 < 65521
  · by_cases b : s / 65536 < 65521
    · rw [show decide (isSum s) = true by simp [isSum, a, b]]
      go_enter Try.func23, Try.ntmps23
      go_wp2
      go_ret
      exact ⟨rfl, rfl⟩
    · rw [show decide (isSum s) = false by simp [isSum, b]]
      go_enter Try.func23, Try.ntmps23
      go_wp2
      go_ret
      exact ⟨rfl, rfl⟩
  · rw [show decide (isSum s) = false by simp [isSum, a]]
    go_enter Try.func23, Try.ntmps23
    go_wp2
    go_ret
    exact ⟨rfl, rfl⟩

set_option maxHeartbeats 400000 in
theorem remainder_any (n : Int) (w : World) (h0 : 0 ≤ n) (h1 : n < 9223372036854775808) :
    Calls Try.prog 21 #[.int .i64 n] w fun e w' => e = .returned (.int .u64 (n % 65521)) ∧ w' = w := by
  go_enter Try.func21, Try.ntmps21
  go_wp2
  go_ret
  exact ⟨rfl, rfl⟩

set_option maxHeartbeats 400000 in
theorem minus_any (x y : Int) (w : World) (h0 : 0 ≤ x) (h1 : x < 281474976710656) (h2 : 0 ≤ y) :
    Calls Try.prog 18 #[.int .u64 x, .int .u64 y] w fun e w' => e = .returned (.int .u64 ((x - y) % 65521)) ∧ w' = w := by
  have he := hide (show (x + 65521 - y % 65521) % 65521 = (x - y) % 65521 by omega)
  go_enter Try.func18, Try.ntmps18
  go_wp2
  go_ret
  exact ⟨by rw [← unhide he]; rfl, rfl⟩

end Go.Proofs.Ytmndgdclcompjaa
