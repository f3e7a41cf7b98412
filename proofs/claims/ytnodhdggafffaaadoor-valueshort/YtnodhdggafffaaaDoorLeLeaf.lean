/-
  What the small functions of package lenenc return: none of them touches memory. Conditions: a number fits its kind.
-/
import Derived.Test.YtnodhdggafffaaaDoorLePlain
import Derived.Test.YtnodhdggafffaaaDoorLenFix
namespace Go.Proofs.YtnodhdggafffaaaDoor
open Go.RowKit
set_option linter.unusedVariables false
set_option linter.unusedSimpArgs false

set_option maxHeartbeats 400000 in
set_option maxRecDepth 100000 in
theorem widthBehind_any (c : Int) (w : World) :
    Calls Tryd.prog 82 #[.int .u8 c] w fun e w' => e = .returned (.int .i64 (widthOf c)) ∧ w' = w := by
  by_cases h1 : c = 252
  · subst h1
    go_enter Tryd.func82, Tryd.ntmps82
    go_wp2
    go_ret
    exact ⟨rfl, rfl⟩
  · by_cases h2 : c = 253
    · subst h2
      go_enter Tryd.func82, Tryd.ntmps82
      go_wp2
      go_ret
      exact ⟨rfl, rfl⟩
    · by_cases h3 : c = 254
      · subst h3
        go_enter Tryd.func82, Tryd.ntmps82
        go_wp2
        go_ret
        exact ⟨rfl, rfl⟩
      · have e : widthOf c = 0 := by simp [widthOf, h1, h2, h3]
        rw [e]
        have b1 : (c == 252) = false := by simpa using h1
        have b2 : (c == 253) = false := by simpa using h2
        have b3 : (c == 254) = false := by simpa using h3
        clear e h1 h2 h3
        go_enter Tryd.func82, Tryd.ntmps82
        go_wp2
        go_ret
        exact ⟨rfl, rfl⟩

set_option maxHeartbeats 400000 in
set_option maxRecDepth 100000 in
theorem firstByte_any (x : Int) (w : World) (h0 : 0 ≤ x) (h1 : x < 18446744073709551616) :
    Calls Tryd.prog 81 #[.int .u64 x] w fun e w' => e = .returned (.int .u8 (firstOf x)) ∧ w' = w := by
  by_cases a : x ≤ 250
  · have e : firstOf x = x := by simp [firstOf, a]
    rw [e]
    clear e
    go_enter Tryd.func81, Tryd.ntmps81
    go_wp2_with fail
    go_ret
    exact ⟨rfl, rfl⟩
  · by_cases b : x < 65536
    · have e : firstOf x = 252 := by simp [firstOf, a, b]
      rw [e]
      clear e
      have hd : decide (x < 2 ^ (8 * (2 : Int).toNat)) = true := by simpa using b
      go_enter Tryd.func81, Tryd.ntmps81
      go_wp2_with (go_at_call 79; refine (fits_any _ _ _ h0 h1 (by omega) (by omega)).mono ?_; rw [hd]; rintro e w' ⟨rfl, rfl⟩)
      go_ret
      exact ⟨rfl, rfl⟩
    · have hd : decide (x < 2 ^ (8 * (2 : Int).toNat)) = false := by simpa using b
      by_cases c : x < 16777216
      · have e : firstOf x = 253 := by simp [firstOf, a, b, c]
        rw [e]
        clear e
        have hd3 : decide (x < 2 ^ (8 * (3 : Int).toNat)) = true := by simpa using c
        go_enter Tryd.func81, Tryd.ntmps81
        go_wp2_with fail
        refine (fits_any _ _ _ h0 h1 (by omega) (by omega)).mono ?_
        rw [hd]
        rintro e w' ⟨rfl, rfl⟩
        go_wp2_with fail
        refine (fits_any _ _ _ h0 h1 (by omega) (by omega)).mono ?_
        rw [hd3]
        rintro e w' ⟨rfl, rfl⟩
        go_wp2_with fail
        go_ret
        exact ⟨rfl, rfl⟩
      · have e : firstOf x = 254 := by simp [firstOf, a, b, c]
        rw [e]
        clear e
        have hd3 : decide (x < 2 ^ (8 * (3 : Int).toNat)) = false := by simpa using c
        go_enter Tryd.func81, Tryd.ntmps81
        go_wp2_with fail
        refine (fits_any _ _ _ h0 h1 (by omega) (by omega)).mono ?_
        rw [hd]
        rintro e w' ⟨rfl, rfl⟩
        go_wp2_with fail
        refine (fits_any _ _ _ h0 h1 (by omega) (by omega)).mono ?_
        rw [hd3]
        rintro e w' ⟨rfl, rfl⟩
        go_wp2_with fail
        go_ret
        exact ⟨rfl, rfl⟩

set_option maxHeartbeats 400000 in
set_option maxRecDepth 100000 in
theorem size_any (x : Int) (w : World) (h0 : 0 ≤ x) (h1 : x < 18446744073709551616) :
    Calls Tryd.prog 65 #[.int .u64 x] w fun e w' => e = .returned (.int .i64 ((form x).length : Int)) ∧ w' = w := by
  have hw := widthOf_cases (firstOf x)
  have hw1 : 0 ≤ widthOf (firstOf x) := by omega
  have hw2 : widthOf (firstOf x) ≤ 8 := by omega
  clear hw
  rw [form_length]
  go_enter Tryd.func65, Tryd.ntmps65
  go_wp2_with (first | (go_at_call 81; refine (firstByte_any _ _ h0 h1).mono ?_; rintro e w' ⟨rfl, rfl⟩) | (go_at_call 82; refine (widthBehind_any _ _).mono ?_; rintro e w' ⟨rfl, rfl⟩))
  go_ret
  exact ⟨rfl, rfl⟩

end Go.Proofs.YtnodhdggafffaaaDoor
