/-
  What Answer of commands, and the document's own, return for any kind. They write nothing. Conditions: none.
-/
import Derived.Test.YtpidlfifipgadaaDoorCmLib
namespace Go.Proofs.YtpidlfifipgadaaDoor
open Go.RowKit
set_option linter.unusedVariables false
set_option linter.unusedSimpArgs false

/-- What comes behind a kind. -/
def anP (k : Int) : Int :=
  if k = 1 then 1 else
  if k = 24 then 1 else
  if k = 25 then 1 else
  if k = 2 then 2 else
  if k = 14 then 2 else
  if k = 26 then 2 else
  if k = 31 then 2 else
  if k = 12 then 2 else
  if k = 27 then 3 else
  if k = 9 then 4 else
  if k = 3 then 5 else
  if k = 23 then 5 else
  if k = 22 then 6 else
  if k = 28 then 7 else
  if k = 17 then 8 else
  9
set_option maxHeartbeats 2000000 in
set_option maxRecDepth 100000 in
theorem answer_any (k : Int) (w : World) : Calls Tryd.prog 10 #[.int .u8 k] w fun e w' => e = .returned (.int .i64 (anP k)) ∧ w' = w := by
  by_cases h1 : k = 1
  · subst h1
    go_enter Tryd.func10, Tryd.ntmps10
    go_wp2_with fail
    go_ret
    exact ⟨rfl, rfl⟩
  by_cases h24 : k = 24
  · subst h24
    go_enter Tryd.func10, Tryd.ntmps10
    go_wp2_with fail
    go_ret
    exact ⟨rfl, rfl⟩
  by_cases h25 : k = 25
  · subst h25
    go_enter Tryd.func10, Tryd.ntmps10
    go_wp2_with fail
    go_ret
    exact ⟨rfl, rfl⟩
  by_cases h2 : k = 2
  · subst h2
    go_enter Tryd.func10, Tryd.ntmps10
    go_wp2_with fail
    go_ret
    exact ⟨rfl, rfl⟩
  by_cases h14 : k = 14
  · subst h14
    go_enter Tryd.func10, Tryd.ntmps10
    go_wp2_with fail
    go_ret
    exact ⟨rfl, rfl⟩
  by_cases h26 : k = 26
  · subst h26
    go_enter Tryd.func10, Tryd.ntmps10
    go_wp2_with fail
    go_ret
    exact ⟨rfl, rfl⟩
  by_cases h31 : k = 31
  · subst h31
    go_enter Tryd.func10, Tryd.ntmps10
    go_wp2_with fail
    go_ret
    exact ⟨rfl, rfl⟩
  by_cases h12 : k = 12
  · subst h12
    go_enter Tryd.func10, Tryd.ntmps10
    go_wp2_with fail
    go_ret
    exact ⟨rfl, rfl⟩
  by_cases h27 : k = 27
  · subst h27
    go_enter Tryd.func10, Tryd.ntmps10
    go_wp2_with fail
    go_ret
    exact ⟨rfl, rfl⟩
  by_cases h9 : k = 9
  · subst h9
    go_enter Tryd.func10, Tryd.ntmps10
    go_wp2_with fail
    go_ret
    exact ⟨rfl, rfl⟩
  by_cases h3 : k = 3
  · subst h3
    go_enter Tryd.func10, Tryd.ntmps10
    go_wp2_with fail
    go_ret
    exact ⟨rfl, rfl⟩
  by_cases h23 : k = 23
  · subst h23
    go_enter Tryd.func10, Tryd.ntmps10
    go_wp2_with fail
    go_ret
    exact ⟨rfl, rfl⟩
  by_cases h22 : k = 22
  · subst h22
    go_enter Tryd.func10, Tryd.ntmps10
    go_wp2_with fail
    go_ret
    exact ⟨rfl, rfl⟩
  by_cases h28 : k = 28
  · subst h28
    go_enter Tryd.func10, Tryd.ntmps10
    go_wp2_with fail
    go_ret
    exact ⟨rfl, rfl⟩
  by_cases h17 : k = 17
  · subst h17
    go_enter Tryd.func10, Tryd.ntmps10
    go_wp2_with fail
    go_ret
    exact ⟨rfl, rfl⟩
  have f1 : (k == 1) = false := by simpa using h1
  have f24 : (k == 24) = false := by simpa using h24
  have f25 : (k == 25) = false := by simpa using h25
  have f2 : (k == 2) = false := by simpa using h2
  have f14 : (k == 14) = false := by simpa using h14
  have f26 : (k == 26) = false := by simpa using h26
  have f31 : (k == 31) = false := by simpa using h31
  have f12 : (k == 12) = false := by simpa using h12
  have f27 : (k == 27) = false := by simpa using h27
  have f9 : (k == 9) = false := by simpa using h9
  have f3 : (k == 3) = false := by simpa using h3
  have f23 : (k == 23) = false := by simpa using h23
  have f22 : (k == 22) = false := by simpa using h22
  have f28 : (k == 28) = false := by simpa using h28
  have f17 : (k == 17) = false := by simpa using h17
  have e : anP k = 9 := by
    unfold anP
    rw [if_neg h1, if_neg h24, if_neg h25, if_neg h2, if_neg h14, if_neg h26, if_neg h31, if_neg h12, if_neg h27, if_neg h9, if_neg h3, if_neg h23, if_neg h22, if_neg h28, if_neg h17]
  rw [e]
  clear h1 h24 h25 h2 h14 h26 h31 h12 h27 h9 h3 h23 h22 h28 h17 e
  go_enter Tryd.func10, Tryd.ntmps10
  go_wp2_with fail
  go_ret
  exact ⟨rfl, rfl⟩

set_option maxHeartbeats 2000000 in
set_option maxRecDepth 100000 in
theorem answer_ref (k : Int) (w : World) : Calls Tryd.prog 18 #[.int .u8 k] w fun e w' => e = .returned (.int .i64 (anP k)) ∧ w' = w := by
  by_cases h1 : k = 1
  · subst h1
    go_enter Tryd.func18, Tryd.ntmps18
    go_wp2_with fail
    go_ret
    exact ⟨rfl, rfl⟩
  by_cases h24 : k = 24
  · subst h24
    go_enter Tryd.func18, Tryd.ntmps18
    go_wp2_with fail
    go_ret
    exact ⟨rfl, rfl⟩
  by_cases h25 : k = 25
  · subst h25
    go_enter Tryd.func18, Tryd.ntmps18
    go_wp2_with fail
    go_ret
    exact ⟨rfl, rfl⟩
  by_cases h2 : k = 2
  · subst h2
    go_enter Tryd.func18, Tryd.ntmps18
    go_wp2_with fail
    go_ret
    exact ⟨rfl, rfl⟩
  by_cases h14 : k = 14
  · subst h14
    go_enter Tryd.func18, Tryd.ntmps18
    go_wp2_with fail
    go_ret
    exact ⟨rfl, rfl⟩
  by_cases h26 : k = 26
  · subst h26
    go_enter Tryd.func18, Tryd.ntmps18
    go_wp2_with fail
    go_ret
    exact ⟨rfl, rfl⟩
  by_cases h31 : k = 31
  · subst h31
    go_enter Tryd.func18, Tryd.ntmps18
    go_wp2_with fail
    go_ret
    exact ⟨rfl, rfl⟩
  by_cases h12 : k = 12
  · subst h12
    go_enter Tryd.func18, Tryd.ntmps18
    go_wp2_with fail
    go_ret
    exact ⟨rfl, rfl⟩
  by_cases h27 : k = 27
  · subst h27
    go_enter Tryd.func18, Tryd.ntmps18
    go_wp2_with fail
    go_ret
    exact ⟨rfl, rfl⟩
  by_cases h9 : k = 9
  · subst h9
    go_enter Tryd.func18, Tryd.ntmps18
    go_wp2_with fail
    go_ret
    exact ⟨rfl, rfl⟩
  by_cases h3 : k = 3
  · subst h3
    go_enter Tryd.func18, Tryd.ntmps18
    go_wp2_with fail
    go_ret
    exact ⟨rfl, rfl⟩
  by_cases h23 : k = 23
  · subst h23
    go_enter Tryd.func18, Tryd.ntmps18
    go_wp2_with fail
    go_ret
    exact ⟨rfl, rfl⟩
  by_cases h22 : k = 22
  · subst h22
    go_enter Tryd.func18, Tryd.ntmps18
    go_wp2_with fail
    go_ret
    exact ⟨rfl, rfl⟩
  by_cases h28 : k = 28
  · subst h28
    go_enter Tryd.func18, Tryd.ntmps18
    go_wp2_with fail
    go_ret
    exact ⟨rfl, rfl⟩
  by_cases h17 : k = 17
  · subst h17
    go_enter Tryd.func18, Tryd.ntmps18
    go_wp2_with fail
    go_ret
    exact ⟨rfl, rfl⟩
  have f1 : (k == 1) = false := by simpa using h1
  have f24 : (k == 24) = false := by simpa using h24
  have f25 : (k == 25) = false := by simpa using h25
  have f2 : (k == 2) = false := by simpa using h2
  have f14 : (k == 14) = false := by simpa using h14
  have f26 : (k == 26) = false := by simpa using h26
  have f31 : (k == 31) = false := by simpa using h31
  have f12 : (k == 12) = false := by simpa using h12
  have f27 : (k == 27) = false := by simpa using h27
  have f9 : (k == 9) = false := by simpa using h9
  have f3 : (k == 3) = false := by simpa using h3
  have f23 : (k == 23) = false := by simpa using h23
  have f22 : (k == 22) = false := by simpa using h22
  have f28 : (k == 28) = false := by simpa using h28
  have f17 : (k == 17) = false := by simpa using h17
  have e : anP k = 9 := by
    unfold anP
    rw [if_neg h1, if_neg h24, if_neg h25, if_neg h2, if_neg h14, if_neg h26, if_neg h31, if_neg h12, if_neg h27, if_neg h9, if_neg h3, if_neg h23, if_neg h22, if_neg h28, if_neg h17]
  rw [e]
  clear h1 h24 h25 h2 h14 h26 h31 h12 h27 h9 h3 h23 h22 h28 h17 e
  go_enter Tryd.func18, Tryd.ntmps18
  go_wp2_with fail
  go_ret
  exact ⟨rfl, rfl⟩

end Go.Proofs.YtpidlfifipgadaaDoor
